package disk

import (
	"bytes"
	"math"
	"math/rand"
	"testing"

	"tideline/api"
)

func full(c byte) []byte { return bytes.Repeat([]byte{c}, api.Page) }

func need(t *testing.T, d *Disk, at int, want []byte) {
	t.Helper()
	b, code := d.Read(at)
	if code != api.OK || !bytes.Equal(b, want) {
		t.Fatalf("page %d: %x.., %d, not %x..", at, b[:min(8, len(b))], code, want[:8])
	}
}

func code(t *testing.T, what string, got, want api.Errno) {
	t.Helper()
	if got != want {
		t.Fatalf("%s: %d, not %d", what, got, want)
	}
}

func fresh(t *testing.T, n int) *Disk {
	t.Helper()
	d, c := New(n)
	code(t, "New", c, api.OK)
	return d
}

func TestNew(t *testing.T) {
	for _, n := range []int{0, -1, math.MinInt, api.MaxPages + 1, math.MaxInt} {
		if d, c := New(n); d != nil || c != api.ErrArg {
			t.Errorf("New(%d): %d", n, c)
		}
	}
	for _, n := range []int{1, 2, api.MaxPages} {
		d := fresh(t, n)
		if d.Size() != n || d.Waiting() != 0 || d.Dead() {
			t.Errorf("New(%d)", n)
		}
		need(t, d, n-1, full(0))
		d.Kill()
		if d.Size() != n || !d.Dead() {
			t.Error("Size of a dead one")
		}
	}
}

func TestExamples(t *testing.T) {
	d := fresh(t, 2)
	code(t, "Write", d.Write(0, full('a')), api.OK)
	need(t, d, 0, full('a'))
	if d.Waiting() != 1 {
		t.Error("Waiting")
	}
	d.Restart(nil)
	need(t, d, 0, full(0))
	d.Write(0, full('a'))
	d.Restart([]int{3})
	need(t, d, 0, append([]byte("aaa"), full(0)[3:]...))
	d.Write(0, full('a'))
	d.Sync()
	d.Write(0, full('b'))
	d.Restart([]int{-1})
	need(t, d, 0, full('b'))
	d.Fuse(1)
	code(t, "Write", d.Write(0, full('a')), api.OK)
	code(t, "Write", d.Write(1, full('b')), api.ErrDead)
	if _, c := d.Read(0); c != api.ErrDead || !d.Dead() {
		t.Error("dead")
	}
}

func TestErrors(t *testing.T) {
	d := fresh(t, 2)
	d.Fuse(0)
	for _, at := range []int{2, -1, math.MaxInt, math.MinInt} {
		code(t, "Write", d.Write(at, full(1)), api.ErrArg)
		if b, c := d.Read(at); c != api.ErrArg || b != nil {
			t.Errorf("Read(%d): %d", at, c)
		}
	}
	for _, b := range [][]byte{nil, make([]byte, 63), make([]byte, api.Page-1), make([]byte, api.Page+1)} {
		code(t, "Write", d.Write(0, b), api.ErrArg)
	}
	if d.Dead() {
		t.Error("an error burns the fuse")
	}
	code(t, "Sync", d.Sync(), api.ErrDead)
	code(t, "Sync", d.Sync(), api.ErrDead)
	code(t, "Write", d.Write(9, nil), api.ErrDead)
	d.Fuse(9)
	d.Restart(nil)
	d.Fuse(1)
	code(t, "Sync", d.Sync(), api.OK)
	code(t, "Sync", d.Sync(), api.ErrDead)
	d.Restart(nil)
	d.Fuse(0)
	d.Fuse(-1)
	code(t, "Sync", d.Sync(), api.OK)
	d.Fuse(0)
	d.Restart(nil)
	code(t, "a restart takes the fuse: Sync", d.Sync(), api.OK)
	d.Kill()
	d.Fuse(0)
	d.Restart(nil)
	code(t, "a dead one gets no fuse: Sync", d.Sync(), api.OK)
}

func TestNil(t *testing.T) {
	var d *Disk
	d.Fuse(1)
	d.Kill()
	d.Restart([]int{1})
	_, c := d.Read(0)
	if c != api.ErrNil || d.Write(0, full(1)) != api.ErrNil || d.Sync() != api.ErrNil || d.Size() != 0 || d.Dead() || d.Waiting() != 0 {
		t.Error("nil")
	}
}

func TestNothingIsShared(t *testing.T) {
	d := fresh(t, 1)
	b := full('a')
	d.Write(0, b)
	b[0] = 'z'
	need(t, d, 0, full('a'))
	g, _ := d.Read(0)
	g[1] = 'z'
	need(t, d, 0, full('a'))
	d.Sync()
	g, _ = d.Read(0)
	g[1] = 'z'
	need(t, d, 0, full('a'))
}

func TestFatesByPages(t *testing.T) {
	d := fresh(t, 9)
	for _, at := range []int{7, 0, 4, 2} {
		d.Write(at, full('a'+byte(at)))
	}
	fates := []int{1, api.Page + 1, -1 - 2*(api.Page+1)}
	d.Restart(fates)
	need(t, d, 0, append([]byte("a"), full(0)[1:]...))
	need(t, d, 2, full(0))
	need(t, d, 4, full('e'))
	need(t, d, 7, full(0))
	if fates[0] != 1 || d.Waiting() != 0 {
		t.Error("the fates have changed, or something waits")
	}
}

// What is done to a disk and to two maps, of what lasts and what waits, comes to the same.
func TestAgainstMaps(t *testing.T) {
	r := rand.New(rand.NewSource(1))
	const n = 5
	d := fresh(t, n)
	lasts, waits := map[int][]byte{}, map[int][]byte{}
	for i := range n {
		lasts[i] = full(0)
	}
	for range 5000 {
		switch r.Intn(8) {
		case 0:
			code(t, "Sync", d.Sync(), api.OK)
			for at, b := range waits {
				lasts[at] = b
			}
			clear(waits)
		case 1:
			fates := make([]int, r.Intn(n))
			for i := range fates {
				fates[i] = []int{0, 1, 2000, api.Page, r.Int() - r.Int()}[r.Intn(5)]
			}
			if r.Intn(2) == 0 {
				d.Kill()
			}
			d.Restart(fates)
			k := 0
			for at := range n {
				b, ok := waits[at]
				if !ok {
					continue
				}
				fate := 0
				if k < len(fates) {
					fate = (fates[k]%(api.Page+1) + api.Page + 1) % (api.Page + 1)
				}
				k++
				lasts[at] = append(bytes.Clone(b[:fate]), lasts[at][fate:]...)
			}
			clear(waits)
		default:
			at, b := r.Intn(n), full(byte(r.Intn(256)))
			code(t, "Write", d.Write(at, b), api.OK)
			waits[at] = b
		}
		if d.Waiting() != len(waits) {
			t.Fatalf("%d wait, not %d", d.Waiting(), len(waits))
		}
		for at := range n {
			want := lasts[at]
			if b, ok := waits[at]; ok {
				want = b
			}
			need(t, d, at, want)
		}
	}
}
