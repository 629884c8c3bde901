package log

import (
	"bytes"
	"fmt"
	"math/rand"
	"testing"

	"tideline/api"
	"tideline/crc"
	"tideline/disk"
)

func fresh(t *testing.T, n int) *disk.Disk {
	t.Helper()
	d, code := disk.New(n)
	if code != api.OK {
		t.Fatal(code)
	}
	return d
}

func open(t *testing.T, d *disk.Disk, first, n int) *Log {
	t.Helper()
	l, code := Open(d, first, n)
	if code != api.OK {
		t.Fatalf("Open: %d", code)
	}
	return l
}

func is(t *testing.T, what string, got, want any) {
	t.Helper()
	if fmt.Sprint(got) != fmt.Sprint(want) {
		t.Fatalf("%s: %v, not %v", what, got, want)
	}
}

func told(l [][]byte) string {
	s := ""
	for _, b := range l {
		s += fmt.Sprintf("%d:%x ", len(b), crc.Sum(b))
	}
	return s
}

func data(n int, seed int64) []byte {
	b := make([]byte, n)
	rand.New(rand.NewSource(seed)).Read(b)
	return b
}

func TestExamples(t *testing.T) {
	d := fresh(t, 4)
	l := open(t, d, 0, 4)
	is(t, "Room", l.Room(), 12192)
	is(t, "Commit", l.Commit([]byte("abc")), api.OK)
	is(t, "Batches", l.Batches(), [][]byte{[]byte("abc")})
	is(t, "Room", l.Room(), 8128)
	is(t, "Commit", l.Commit(data(8129, 1)), api.ErrFull)
	is(t, "Commit", l.Commit(data(8128, 1)), api.OK)
	is(t, "Room", l.Room(), 0)
	is(t, "Commit", l.Commit(nil), api.ErrFull)
	is(t, "Batches", told(l.Batches()), told([][]byte{[]byte("abc"), data(8128, 1)}))
	is(t, "Reset", l.Reset(), api.OK)
	is(t, "Batches", len(l.Batches()), 0)
	is(t, "Room", l.Room(), 12192)
	is(t, "Commit", l.Commit(nil), api.OK)
	is(t, "Batches", told(l.Batches()), told([][]byte{nil}))
	is(t, "Waiting", d.Waiting(), 0)
}

func TestOpenErrors(t *testing.T) {
	if l, code := Open(nil, 0, 2); l != nil || code != api.ErrNil {
		t.Error("no disk")
	}
	d := fresh(t, 4)
	for _, x := range [][2]int{{1, 4}, {0, 1}, {0, 0}, {0, -1}, {0, 5}, {-1, 3}, {3, 2}, {1 << 62, 2}, {1, 1<<63 - 1}, {-1 << 63, 3}} {
		if l, code := Open(d, x[0], x[1]); l != nil || code != api.ErrArg {
			t.Errorf("Open(%v): %d", x, code)
		}
	}
	for _, x := range [][2]int{{0, 2}, {2, 2}, {1, 3}, {0, 4}} {
		open(t, d, x[0], x[1])
	}
	for _, at := range []int{0, atAgain} {
		b := make([]byte, api.Page)
		put(b[at:], lastStamp, 8)
		d.Write(2, b)
		if l, code := Open(d, 0, 4); l != nil || code != api.ErrBroken {
			t.Errorf("no next stamp: %d", code)
		}
		open(t, d, 0, 2)
		b = make([]byte, api.Page)
		put(b[at:], lastStamp-1, 8)
		d.Write(2, b)
		open(t, d, 0, 4)
	}
	d.Kill()
	if l, code := Open(d, 9, 9); l != nil || code != api.ErrDead {
		t.Errorf("no power: %d", code)
	}
}

func TestNil(t *testing.T) {
	var l *Log
	if l.Commit(nil) != api.ErrNil || l.Reset() != api.ErrNil || l.Room() != 0 || l.Batches() != nil {
		t.Error("nil")
	}
}

// What lies on the disk is what the chapter says.
func TestPages(t *testing.T) {
	d := fresh(t, 5)
	old := make([]byte, api.Page)
	put(old, 6, 8)
	put(old[4088:], 2, 8)
	d.Write(4, old)
	l := open(t, d, 1, 4)
	is(t, "Waiting", d.Waiting(), 1)
	is(t, "Commit", l.Commit(data(5000, 3)), api.OK)
	want := func(at int, stamp uint64, place, pages int, b []byte) {
		p := make([]byte, 4084)
		put(p, stamp, 8)
		put(p[8:], uint64(place), 4)
		put(p[12:], uint64(pages), 4)
		put(p[16:], uint64(len(b)), 4)
		copy(p[20:], b)
		p = append(p, make([]byte, 12)...)
		put(p[4084:], uint64(crc.Sum(p[:4084])), 4)
		put(p[4088:], stamp, 8)
		if g, _ := d.Read(at); !bytes.Equal(g, p) {
			t.Errorf("page %d: %x.., not %x..", at, g[:24], p[:24])
		}
	}
	b := data(5000, 3)
	want(1, 7, 0, 0, nil)
	want(2, 8, 0, 2, b[:4064])
	want(3, 8, 1, 2, b[4064:])
	is(t, "Room", l.Room(), 4064)
	is(t, "Commit", l.Commit([]byte("x")), api.OK)
	want(4, 9, 0, 1, []byte("x"))
	again := open(t, d, 1, 4)
	is(t, "Batches", told(again.Batches()), told(l.Batches()))
	is(t, "Reset", again.Reset(), api.OK)
	want(1, 10, 0, 0, nil)
	is(t, "Batches", len(open(t, d, 1, 4).Batches()), 0)
	is(t, "Room", open(t, d, 1, 4).Room(), 3*4064)
}

// page lays a sheet, spoils it, and sums it anew.
func page(s sheet, spoil func(b []byte)) []byte {
	b := lay(s)
	spoil(b)
	put(b[atSum:], uint64(crc.Sum(b[:atSum])), 4)
	return b
}

func TestWhatIsABatch(t *testing.T) {
	none := func(b []byte) {}
	x := []byte("x")
	mark := page(sheet{stamp: 5}, none)
	one := func(stamp uint64, place, pages int) []byte { return page(sheet{stamp, place, pages, x}, none) }
	for i, c := range []struct {
		pages [][]byte
		want  int
	}{
		{[][]byte{mark, one(6, 0, 1), one(7, 0, 1)}, 2},
		{[][]byte{mark, one(6, 0, 1), one(6, 0, 1)}, 1},
		{[][]byte{mark, one(6, 0, 1), one(9, 0, 2), one(9, 1, 2)}, 2},
		{[][]byte{mark, one(6, 0, 2), one(6, 1, 2), one(6, 0, 1)}, 1},
		{[][]byte{mark, one(6, 0, 2), one(7, 1, 2)}, 0},
		{[][]byte{mark, one(6, 0, 2), one(6, 1, 1)}, 0},
		{[][]byte{mark, one(6, 0, 2), one(6, 0, 2)}, 0},
		{[][]byte{mark, one(6, 1, 2), one(6, 0, 2)}, 0},
		{[][]byte{mark, one(6, 0, 9), one(6, 1, 9)}, 0},
		{[][]byte{mark, one(6, 0, 0)}, 0},
		{[][]byte{mark, one(5, 0, 1)}, 0},
		{[][]byte{mark, one(4, 0, 1)}, 0},
		{[][]byte{mark, make([]byte, api.Page), one(7, 0, 1)}, 0},
		{[][]byte{one(5, 0, 0), one(6, 0, 1)}, 0},
		{[][]byte{page(sheet{5, 1, 0, nil}, none), one(6, 0, 1)}, 0},
		{[][]byte{page(sheet{5, 0, 1, nil}, none), one(6, 0, 1)}, 0},
		{[][]byte{make([]byte, api.Page), one(6, 0, 1)}, 0},
		{[][]byte{page(sheet{stamp: 5}, func(b []byte) { b[atAgain]++ }), one(6, 0, 1)}, 0},
		{[][]byte{page(sheet{stamp: 5}, func(b []byte) { b[4000] = 1 }), one(6, 0, 1)}, 0},
		{[][]byte{mark, page(sheet{6, 0, 1, x}, func(b []byte) { b[atData+1] = 1 })}, 0},
		{[][]byte{mark, page(sheet{6, 0, 1, x}, func(b []byte) { put(b[atSize:], most+1, 4) })}, 0},
		{[][]byte{mark, page(sheet{6, 0, 1, x}, func(b []byte) { put(b[atSize:], 1<<32-1, 4) })}, 0},
		{[][]byte{mark, page(sheet{6, 0, 1, x}, func(b []byte) { put(b[atSize:], most, 4) })}, 1},
	} {
		d := fresh(t, 5)
		for at, b := range c.pages {
			d.Write(at, b)
		}
		if g := len(open(t, d, 0, 5).Batches()); g != c.want {
			t.Errorf("%d: %d batches, not %d", i, g, c.want)
		}
		flip := bytes.Clone(c.pages[0])
		flip[30] ^= 4
		d.Write(0, flip)
		if g := len(open(t, d, 0, 5).Batches()); g != 0 {
			t.Errorf("%d: a wrong sum, and %d batches", i, g)
		}
	}
}

func TestADeadLogStaysDead(t *testing.T) {
	d := fresh(t, 4)
	l := open(t, d, 0, 4)
	l.Commit([]byte("a"))
	d.Fuse(1)
	is(t, "Commit", l.Commit([]byte("b")), api.ErrDead)
	is(t, "Batches", l.Batches(), [][]byte{[]byte("a")})
	d.Restart(nil)
	is(t, "Commit", l.Commit([]byte("c")), api.ErrDead)
	is(t, "Reset", l.Reset(), api.ErrDead)
	l = open(t, d, 0, 4)
	d.Kill()
	is(t, "Reset", l.Reset(), api.ErrDead)
	d.Restart(nil)
	is(t, "Commit", l.Commit([]byte("c")), api.ErrDead)
	is(t, "Batches", open(t, d, 0, 4).Batches(), [][]byte{[]byte("a")})
}

func TestNothingIsShared(t *testing.T) {
	d := fresh(t, 4)
	l := open(t, d, 0, 4)
	b := []byte("abc")
	l.Commit(b)
	b[0] = 'z'
	l.Batches()[0][1] = 'z'
	is(t, "Batches", l.Batches(), [][]byte{[]byte("abc")})
	g := open(t, d, 0, 4)
	g.Batches()[0][1] = 'z'
	is(t, "Batches", g.Batches(), [][]byte{[]byte("abc")})
}

// Whenever the power goes, all that was committed is there, and perhaps the batch under way.
func TestPower(t *testing.T) {
	r := rand.New(rand.NewSource(1))
	d := fresh(t, 9)
	l := open(t, d, 1, 7)
	var want [][]byte
	for round := range 1200 {
		d.Fuse(r.Intn(12))
		for {
			b := data(r.Intn(10000), int64(round))
			next := append(want[:len(want):len(want)], b)
			reset := r.Intn(4) == 0
			if reset {
				next = nil
			}
			var code api.Errno
			if reset {
				code = l.Reset()
			} else {
				code = l.Commit(b)
			}
			if code == api.ErrFull {
				continue
			}
			if code == api.OK {
				want = next
				is(t, "Batches", told(l.Batches()), told(want))
				continue
			}
			is(t, "the power goes", code, api.ErrDead)
			var fates []int
			for range r.Intn(9) {
				fates = append(fates, []int{0, -1, 1, 7, 8, 12, 4084, 4088, 4090, r.Intn(4097)}[r.Intn(10)])
			}
			d.Restart(fates)
			l = open(t, d, 1, 7)
			g := told(l.Batches())
			is(t, "opened twice", told(open(t, d, 1, 7).Batches()), g)
			switch g {
			case told(next):
				want = next
			case told(want):
			default:
				t.Fatalf("round %d: %s, not %s, nor %s", round, g, told(want), told(next))
			}
			break
		}
	}
}

func TestSizes(t *testing.T) {
	for _, n := range []int{0, 1, 4063, 4064, 4065, 4066, 8127, 8128, 8129, 12191, 12192} {
		d := fresh(t, 4)
		l := open(t, d, 0, 4)
		is(t, "Commit", l.Commit(data(n, 5)), api.OK)
		is(t, "Room", l.Room(), 12192-4064*max(1, (n+4063)/4064))
		is(t, "Batches", told(open(t, d, 0, 4).Batches()), told([][]byte{data(n, 5)}))
	}
}
