package pages

import (
	"bytes"
	"slices"

	"tideline/api"
)

// Tx is a transaction.
type Tx struct {
	view
	s       *Store
	changed map[int][]byte // of pages that are taken
	undo    []func()
	since   map[int]int // which of undo takes back what a page has become, if none behind it does
	told    []int       // what Mark told, rising
	ended   bool
}

// live is what is wrong with a call, ahead of its arguments.
func (t *Tx) live() api.Errno {
	switch {
	case t == nil:
		return api.ErrNil
	case t.ended:
		return api.ErrState
	case t.s.Dead():
		return api.ErrDead
	}
	return api.OK
}

// Read is a page's bytes.
func (t *Tx) Read(p int) ([]byte, api.Errno) {
	if code := t.live(); code != api.OK {
		return nil, code
	}
	if !t.has(p) {
		return nil, api.ErrArg
	}
	if b, ok := t.changed[p]; ok {
		return bytes.Clone(b), api.OK
	}
	return t.bytes(p)
}

// Write makes bytes a page's.
func (t *Tx) Write(p int, b []byte) api.Errno {
	if code := t.live(); code != api.OK {
		return code
	}
	if !t.has(p) || len(b) != api.Page {
		return api.ErrArg
	}
	// What Mark has not told since need not be come back to: one step back is enough for several writes.
	if i, ok := t.since[p]; !ok || i < t.told[len(t.told)-1] {
		t.record(p)
	}
	t.changed[p] = bytes.Clone(b)
	return api.OK
}

// record keeps how a page stands, as a step of undo.
func (t *Tx) record(p int) {
	b, changed := t.changed[p]
	i, known := t.since[p]
	taken := t.taken[p]
	t.undo = append(t.undo, func() {
		t.taken[p] = taken
		delete(t.changed, p)
		delete(t.since, p)
		if changed {
			t.changed[p] = b
		}
		if known {
			t.since[p] = i
		}
	})
	t.since[p] = len(t.undo) - 1
}

// Alloc takes a page.
func (t *Tx) Alloc() (int, api.Errno) {
	if code := t.live(); code != api.OK {
		return 0, code
	}
	for p := range t.free() {
		t.record(p)
		t.taken[p] = true
		t.changed[p] = make([]byte, api.Page)
		return p, api.OK
	}
	return 0, api.ErrFull
}

// Free gives a page back.
func (t *Tx) Free(p int) api.Errno {
	if code := t.live(); code != api.OK {
		return code
	}
	if !t.has(p) || p == t.root {
		return api.ErrArg
	}
	t.record(p)
	t.taken[p] = false
	delete(t.changed, p)
	return api.OK
}

// Left is how many pages are free.
func (t *Tx) Left() int {
	n := 0
	if t.live() == api.OK {
		for range t.free() {
			n++
		}
	}
	return n
}

// Root is the root.
func (t *Tx) Root() int {
	if t.live() != api.OK {
		return 0
	}
	return t.root
}

// SetRoot makes a page the root.
func (t *Tx) SetRoot(p int) api.Errno {
	if code := t.live(); code != api.OK {
		return code
	}
	if p != 0 && !t.has(p) {
		return api.ErrArg
	}
	was := t.root
	t.undo = append(t.undo, func() { t.root = was })
	t.root = p
	return api.OK
}

// Mark stands for what was done up to now.
func (t *Tx) Mark() int {
	if t == nil || t.ended {
		return 0
	}
	n := len(t.undo)
	if t.told[len(t.told)-1] < n {
		t.told = append(t.told, n)
	}
	return n
}

// Back undoes what was done behind a mark.
func (t *Tx) Back(m int) api.Errno {
	if code := t.live(); code != api.OK {
		return code
	}
	if m < 0 || m > len(t.undo) {
		return api.ErrArg
	}
	if m == len(t.undo) {
		return api.OK
	}
	// Only where Mark told a number does each step of undo stand for itself.
	i, ok := slices.BinarySearch(t.told, m)
	if !ok {
		i--
	}
	for len(t.undo) > t.told[i] {
		last := len(t.undo) - 1
		t.undo[last]()
		t.undo = t.undo[:last]
	}
	t.told = t.told[:i+1]
	return api.OK
}

// batch is all that the transaction did, as bytes.
func (t *Tx) batch() []byte {
	b := append(make([]byte, 4), t.head()...)
	for p := range t.taken {
		if x, ok := t.changed[p]; ok {
			n := len(b)
			b = append(b, 0, 0, 0, 0)
			put4(b[n:], p)
			b = append(b, x...)
		}
	}
	return b
}

func (t *Tx) end() {
	t.ended = true
	t.s.tx = nil
}

// Commit lets all that was done last.
func (t *Tx) Commit() api.Errno {
	if code := t.live(); code == api.ErrNil || code == api.ErrState {
		return code
	}
	t.end()
	code := api.ErrDead
	if !t.s.Dead() {
		code = api.OK
		if len(t.undo) > 0 {
			code = t.s.commit(t)
		}
	}
	if code != api.OK {
		t.s.dead = true
	}
	return code
}

// Abort ends the transaction, which did nothing.
func (t *Tx) Abort() {
	if t != nil && !t.ended {
		t.end()
	}
}
