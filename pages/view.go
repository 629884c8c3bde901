package pages

import (
	"bytes"
	"iter"

	"tideline/api"
	"tideline/disk"
)

// How page 0 is laid: what it begins with, the root, and of each page a bit, 1 if it is taken.
const (
	magic   = "tidepage"
	atRoot  = 8
	atTaken = 12
)

// view is a store as it stands: page p of it lies in page p of the disk, or, newer, in pages.
type view struct {
	d     *disk.Disk
	root  int
	taken []bool
	pages map[int][]byte
}

// has tells whether p is a page that is taken.
func (v *view) has(p int) bool { return p > 0 && p < len(v.taken) && v.taken[p] }

// bytes are a page's.
func (v *view) bytes(p int) ([]byte, api.Errno) {
	if b, ok := v.pages[p]; ok {
		return bytes.Clone(b), api.OK
	}
	return v.d.Read(p)
}

// free are the pages that are, rising.
func (v *view) free() iter.Seq[int] {
	return func(yield func(int) bool) {
		for p := 1; p < len(v.taken); p++ {
			if !v.taken[p] && !yield(p) {
				return
			}
		}
	}
}

func put4(b []byte, v int) {
	for i := range 4 {
		b[i] = byte(v >> uint(24-8*i))
	}
}

func get4(b []byte) int {
	v := 0
	for _, c := range b[:4] {
		v = v<<8 | int(c)
	}
	return v
}

// head is page 0.
func (v *view) head() []byte {
	b := make([]byte, api.Page)
	copy(b, magic)
	put4(b[atRoot:], v.root)
	for p, taken := range v.taken {
		if taken {
			b[atTaken+p/8] |= 1 << uint(p%8)
		}
	}
	return b
}

// readHead reads page 0; false, if it is none of a store of as many pages.
func (v *view) readHead(b []byte) bool {
	if bytes.Equal(b, make([]byte, api.Page)) {
		return true // a new disk
	}
	v.root = get4(b[atRoot:])
	for p := range v.taken {
		v.taken[p] = b[atTaken+p/8]>>uint(p%8)&1 == 1
	}
	return bytes.Equal(b, v.head()) && !v.taken[0] && (v.root == 0 || v.has(v.root))
}
