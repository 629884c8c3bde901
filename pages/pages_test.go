package pages

import (
	"bytes"
	"fmt"
	"math/rand"
	"testing"

	"tideline/api"
	"tideline/disk"
)

func full(c byte) []byte { return bytes.Repeat([]byte{c}, api.Page) }

func fresh(t *testing.T, n int) *disk.Disk {
	t.Helper()
	d, code := disk.New(n)
	if code != api.OK {
		t.Fatal(code)
	}
	return d
}

func open(t *testing.T, d *disk.Disk) *Store {
	t.Helper()
	s, code := Open(d)
	if code != api.OK {
		t.Fatalf("Open: %d", code)
	}
	return s
}

func begin(t *testing.T, s *Store) *Tx {
	t.Helper()
	x, code := s.Begin()
	if code != api.OK {
		t.Fatalf("Begin: %d", code)
	}
	return x
}

func is(t *testing.T, what string, got, want any) {
	t.Helper()
	if fmt.Sprint(got) != fmt.Sprint(want) {
		t.Fatalf("%s: %v, not %v", what, got, want)
	}
}

func alloc(t *testing.T, x *Tx, want int, code api.Errno) {
	t.Helper()
	p, c := x.Alloc()
	if p != want || c != code {
		t.Fatalf("Alloc: %d, %d, not %d, %d", p, c, want, code)
	}
}

func holds(t *testing.T, x *Tx, p int, want byte) {
	t.Helper()
	b, code := x.Read(p)
	if code != api.OK || !bytes.Equal(b, full(want)) {
		t.Fatalf("page %d: %d", p, code)
	}
}

func TestExamples(t *testing.T) {
	s := open(t, fresh(t, 8))
	is(t, "Pages", s.Pages(), 3)
	x := begin(t, s)
	is(t, "Left", x.Left(), 2)
	alloc(t, x, 1, api.OK)
	alloc(t, x, 2, api.OK)
	alloc(t, x, 0, api.ErrFull)
	is(t, "SetRoot", x.SetRoot(1), api.OK)
	is(t, "Free", x.Free(1), api.ErrArg)
	is(t, "Free", x.Free(2), api.OK)
	_, code := x.Read(2)
	is(t, "Read", code, api.ErrArg)
	m := x.Mark()
	is(t, "Write", x.Write(1, full(0xff)), api.OK)
	is(t, "Back", x.Back(m), api.OK)
	holds(t, x, 1, 0)
	is(t, "Commit", x.Commit(), api.OK)
	is(t, "Commit", x.Commit(), api.ErrState)
	x = begin(t, s)
	_, code = s.Begin()
	is(t, "Begin", code, api.ErrState)
	is(t, "Root", x.Root(), 1)
}

func TestSizes(t *testing.T) {
	for _, x := range [][2]int{{6, 2}, {7, 2}, {8, 3}, {128, 63}, {129, 63}, {130, 63}, {131, 64}, {4096, 2031}} {
		s := open(t, fresh(t, x[0]))
		if s.Pages() != x[1] {
			t.Errorf("%d: %d pages", x[0], s.Pages())
		}
	}
	for n := 1; n < 6; n++ {
		if s, code := Open(fresh(t, n)); s != nil || code != api.ErrArg {
			t.Errorf("Open of %d: %d", n, code)
		}
	}
}

// There is always room to commit, however many pages were written.
func TestRoomToCommit(t *testing.T) {
	for _, n := range []int{6, 7, 8, 9, 66, 128, 131, 132, 231, 260, 600} {
		d := fresh(t, n)
		for round := range 3 {
			s := open(t, d)
			x := begin(t, s)
			for p := 1; p < s.Pages(); p++ {
				if round == 0 {
					alloc(t, x, p, api.OK)
				}
				is(t, "Write", x.Write(p, full(byte(p+round))), api.OK)
			}
			is(t, "Commit", x.Commit(), api.OK)
			x = begin(t, s)
			for p := 1; p < s.Pages(); p++ {
				holds(t, x, p, byte(p+round))
			}
		}
	}
}

func TestOpenErrors(t *testing.T) {
	if s, code := Open(nil); s != nil || code != api.ErrNil {
		t.Error("no disk")
	}
	d := fresh(t, 4)
	d.Kill()
	if _, code := Open(d); code != api.ErrDead {
		t.Error("no power")
	}
	for _, c := range []byte{1, 7, 0x80, 0xff} {
		d = fresh(t, 12)
		for at := range 12 {
			d.Write(at, full(c))
		}
		if s, code := Open(d); s != nil || code != api.ErrBroken {
			t.Errorf("bytes %x everywhere: %d", c, code)
		}
	}
	// A page 0 that says what can't be.
	for _, at := range []int{0, 7, 8, 11, 12, 13, 14, 4095} {
		d = fresh(t, 12)
		s := open(t, d)
		x := begin(t, s)
		x.Alloc()
		x.SetRoot(1)
		x.Commit()
		s.settle()
		b, _ := d.Read(0)
		b[at] ^= 0x81
		d.Write(0, b)
		if _, code := Open(d); code != api.ErrBroken {
			t.Errorf("another byte %d: %d", at, code)
		}
	}
	d = fresh(t, 12)
	open(t, d)
	is(t, "Waiting", d.Waiting(), 0)
}

func TestErrors(t *testing.T) {
	var s *Store
	var x *Tx
	_, code := s.Begin()
	is(t, "Begin", code, api.ErrNil)
	_, code = x.Read(1)
	_, code2 := x.Alloc()
	is(t, "nil", []any{s.Pages(), s.Dead(), code, code2, x.Write(1, nil), x.Free(1), x.Left(), x.Root(), x.SetRoot(0), x.Mark(), x.Back(0), x.Commit()},
		[]any{0, false, api.ErrNil, api.ErrNil, api.ErrNil, api.ErrNil, 0, 0, api.ErrNil, 0, api.ErrNil, api.ErrNil})
	x.Abort()
	d := fresh(t, 20)
	s = open(t, d)
	x = begin(t, s)
	alloc(t, x, 1, api.OK)
	for _, p := range []int{0, -1, 2, 99, s.Pages(), 1 << 62, -1 << 63} {
		b, code := x.Read(p)
		is(t, "no page", []any{b, code, x.Write(p, full(1)), x.Free(p)}, []any{[]byte(nil), api.ErrArg, api.ErrArg, api.ErrArg})
		if p != 0 {
			is(t, "SetRoot", x.SetRoot(p), api.ErrArg)
		}
	}
	is(t, "Write", []any{x.Write(1, nil), x.Write(1, full(1)[1:]), x.Write(1, append(full(1), 1))}, []any{api.ErrArg, api.ErrArg, api.ErrArg})
	is(t, "Back", []any{x.Back(-1), x.Back(x.Mark() + 1)}, []any{api.ErrArg, api.ErrArg})
	x.Abort()
	_, code = x.Read(1)
	_, code2 = x.Alloc()
	is(t, "ended", []any{code, code2, x.Write(1, full(1)), x.Free(1), x.Left(), x.Root(), x.SetRoot(0), x.Mark(), x.Back(0), x.Commit()},
		[]any{api.ErrState, api.ErrState, api.ErrState, api.ErrState, 0, 0, api.ErrState, 0, api.ErrState, api.ErrState})
	x = begin(t, s)
	alloc(t, x, 1, api.OK)
	x.SetRoot(1)
	d.Kill()
	_, code = x.Read(1)
	_, code2 = x.Alloc()
	_, code3 := s.Begin()
	is(t, "dead", []any{s.Dead(), code3, code, code2, x.Write(1, full(1)), x.Free(9), x.Left(), x.Root(), x.SetRoot(0), x.Back(-1), x.Commit(), x.Commit()},
		[]any{true, api.ErrState, api.ErrDead, api.ErrDead, api.ErrDead, api.ErrDead, 0, 0, api.ErrDead, api.ErrDead, api.ErrDead, api.ErrState})
	d.Restart(nil)
	_, code = s.Begin()
	is(t, "a Commit met it", []any{s.Dead(), code}, []any{true, api.ErrDead})
}

// image is what a store's transactions come to, in maps.
type image struct {
	root  int
	pages map[int]byte
}

func (m image) copy() image {
	c := image{m.root, map[int]byte{}}
	for p, b := range m.pages {
		c.pages[p] = b
	}
	return c
}

func (m image) check(t *testing.T, x *Tx, n int) {
	t.Helper()
	if x.Root() != m.root || x.Left() != n-1-len(m.pages) {
		t.Fatalf("root %d, %d left, not %d, %d", x.Root(), x.Left(), m.root, n-1-len(m.pages))
	}
	for p := range n {
		c, ok := m.pages[p]
		if !ok {
			_, code := x.Read(p)
			is(t, "Read", code, api.ErrArg)
			continue
		}
		holds(t, x, p, c)
	}
}

func (m *image) act(t *testing.T, r *rand.Rand, x *Tx, n int) {
	p := r.Intn(n)
	_, taken := m.pages[p]
	switch r.Intn(7) {
	case 0:
		want, code := 0, api.ErrFull
		for q := n - 1; q > 0; q-- {
			if _, ok := m.pages[q]; !ok {
				want, code = q, api.OK
			}
		}
		alloc(t, x, want, code)
		if code == api.OK {
			m.pages[want] = 0
		}
	case 1:
		want := api.ErrArg
		if taken && p != m.root {
			want = api.OK
			delete(m.pages, p)
		}
		is(t, "Free", x.Free(p), want)
	case 2:
		want := api.ErrArg
		if taken || p == 0 {
			want, m.root = api.OK, p
		}
		is(t, "SetRoot", x.SetRoot(p), want)
	default:
		want, c := api.ErrArg, byte(r.Intn(256))
		if taken {
			want, m.pages[p] = api.OK, c
		}
		is(t, "Write", x.Write(p, full(c)), want)
	}
}

// What is done to a store, and to maps, comes to the same, whenever the power goes.
func TestPower(t *testing.T) {
	r := rand.New(rand.NewSource(1))
	for _, size := range []int{6, 9, 14, 30} {
		d := fresh(t, size)
		s := open(t, d)
		n := s.Pages()
		lasts := image{pages: map[int]byte{}}
		for range 300 {
			d.Fuse(r.Intn(60))
			code := api.OK
			for code == api.OK {
				x := begin(t, s)
				m := lasts.copy()
				m.check(t, x, n)
				marks, stood := []int{x.Mark()}, []image{m.copy()}
				for range r.Intn(25) {
					m.act(t, r, x, n)
					if r.Intn(4) == 0 {
						marks, stood = append(marks, x.Mark()), append(stood, m.copy())
					}
					if r.Intn(9) == 0 {
						k := r.Intn(len(marks))
						is(t, "Back", x.Back(marks[k]), api.OK)
						m = stood[k].copy()
						is(t, "Mark", x.Mark(), marks[k])
						marks, stood = marks[:k+1], stood[:k+1]
					}
				}
				m.check(t, x, n)
				if r.Intn(5) == 0 {
					x.Abort()
					continue
				}
				code = x.Commit()
				if code == api.OK {
					lasts = m
					continue
				}
				is(t, "Commit", code, api.ErrDead)
				var fates []int
				for range r.Intn(9) {
					fates = append(fates, []int{0, -1, 8, 4088, r.Intn(4097)}[r.Intn(5)])
				}
				d.Restart(fates)
				s = open(t, d)
				x = begin(t, s)
				same := x.Root() == m.root && x.Left() == n-1-len(m.pages)
				for p, c := range m.pages {
					b, code := x.Read(p)
					same = same && code == api.OK && bytes.Equal(b, full(c))
				}
				if same {
					lasts = m
				}
				lasts.check(t, x, n)
				x.Abort()
				is(t, "Waiting", d.Waiting(), 0)
			}
		}
	}
}

func TestBackToWhereMarkNeverTold(t *testing.T) {
	s := open(t, fresh(t, 12))
	for m := 0; ; m++ {
		x := begin(t, s)
		for range 4 {
			x.Alloc()
		}
		x.Write(1, full(1))
		x.Write(2, full(2))
		x.Mark()
		x.Write(1, full(3))
		x.Write(3, full(4))
		x.Write(1, full(5))
		if m > x.Mark() {
			return
		}
		is(t, "Back", x.Back(m), api.OK)
		b, code := x.Read(1)
		c, _ := x.Read(2)
		d, _ := x.Read(3)
		state := "none"
		if code == api.OK && len(c) > 0 && len(d) > 0 {
			state = fmt.Sprint(b[0], c[0], d[0])
		}
		switch state {
		case "5 2 4", "3 2 4", "3 2 0", "1 2 0", "1 0 0", "0 0 0", "none":
		default:
			t.Errorf("back at %d: %s", m, state)
		}
		x.Abort()
	}
}

func TestNothingIsShared(t *testing.T) {
	s := open(t, fresh(t, 12))
	x := begin(t, s)
	x.Alloc()
	b := full(1)
	x.Write(1, b)
	b[0] = 9
	holds(t, x, 1, 1)
	g, _ := x.Read(1)
	g[0] = 9
	holds(t, x, 1, 1)
	x.Commit()
	x = begin(t, s)
	g, _ = x.Read(1)
	g[0] = 9
	holds(t, x, 1, 1)
}

func TestAbortDidNothing(t *testing.T) {
	d := fresh(t, 12)
	s := open(t, d)
	x := begin(t, s)
	x.Alloc()
	x.SetRoot(1)
	x.Abort()
	x.Abort()
	x = begin(t, s)
	is(t, "Root", []any{x.Root(), x.Left()}, []any{0, s.Pages() - 1})
	alloc(t, x, 1, api.OK)
	is(t, "Waiting", d.Waiting(), 0)
}
