package ints

import (
	"bytes"
	"math"
	"math/rand"
	"slices"
	"strings"
	"testing"

	"tideline/api"
)

func TestPut(t *testing.T) {
	for _, x := range []struct {
		l    []int64
		want string
	}{
		{[]int64{10, 20, 30, 40}, "\x01\x14\x03\x00"},
		{[]int64{5, 5, 5}, "\x01\x0a\x01\x09\x01\x00"},
		{nil, ""},
		{[]int64{0, 0, 0}, "\x03\x00"},
		{[]int64{math.MinInt64, math.MaxInt64}, "\x01\xff\xff\xff\xff\xff\xff\xff\xff\xff\x01\x01\xfe\xff\xff\xff\xff\xff\xff\xff\xff\x01"},
	} {
		if g := Put(x.l); string(g) != x.want {
			t.Errorf("Put(%v) = %x", x.l, g)
		}
	}
}

func TestGetErrors(t *testing.T) {
	for _, x := range []struct {
		b    string
		n    int
		code api.Errno
	}{
		{"\x01\x14\x03\x00", 4, api.OK},
		{"\x01\x14\x03\x00", 5, api.ErrShort},
		{"\x01\x14\x03\x00", 3, api.ErrForm},
		{"\x01\x14\x03\x00", 1, api.ErrForm},
		{"\x01\x14\x03\x00\x00", 4, api.ErrForm},
		{"\x00\x00", 1, api.ErrForm},
		{"\x00", 1, api.ErrForm},
		{"\x02", 1, api.ErrForm},
		{"\x01", 1, api.ErrShort},
		{"\x01\x14\x01\x00\x02\x00", 4, api.ErrForm},
		{"\x80", 1, api.ErrShort},
		{"\x81\x00\x00", 1, api.ErrForm},
		{"\x01\x80\x00", 1, api.ErrForm},
		{"\x01\x80", 1, api.ErrShort},
		{"", 1, api.ErrShort},
		{"", 0, api.OK},
		{"\x01\x00", 0, api.ErrForm},
		{"\x80", 0, api.ErrForm},
		{"", -1, api.ErrArg},
		{"", api.MaxRows + 1, api.ErrArg},
		{"\x80\x80\x04\x00", api.MaxRows, api.OK},
		{"\xff\xff\xff\xff\xff\xff\xff\xff\xff\x01\x00", 5, api.ErrForm},
	} {
		l, code := Get([]byte(x.b), x.n)
		if code != x.code || code != api.OK && l != nil || code == api.OK && len(l) != x.n {
			t.Errorf("Get(%x, %d): %d numbers, %d", x.b, x.n, len(l), code)
		}
	}
}

func check(t *testing.T, l []int64) []byte {
	t.Helper()
	was := slices.Clone(l)
	b := Put(l)
	g, code := Get(b, len(l))
	if code != api.OK || !slices.Equal(g, l) || !slices.Equal(l, was) {
		t.Fatalf("Get(Put(%v)) = %v, %d", l, g, code)
	}
	return b
}

func TestRowsAndBytes(t *testing.T) {
	r := rand.New(rand.NewSource(1))
	for range 2000 {
		l := make([]int64, r.Intn(12))
		for i := range l {
			switch r.Intn(3) {
			case 0:
				l[i] = int64(r.Uint64())
			case 1:
				l[i] = int64(r.Intn(4))
			case 2:
				l[i] = 1<<63 - 1 - int64(r.Intn(3))
			}
		}
		check(t, l)
		// Whatever is read is laid as just these bytes.
		b := []byte(strings.Repeat("\x00", r.Intn(8)))
		for i := range b {
			b[i] = byte(r.Intn(4))
		}
		n := r.Intn(8)
		if g, code := Get(b, n); code == api.OK && !bytes.Equal(Put(g), b) {
			t.Fatalf("%x is read as %v", b, g)
		}
	}
}

func TestEvenRowsAreShort(t *testing.T) {
	for _, step := range []int64{0, 1, -7, math.MaxInt64, math.MinInt64} {
		for _, first := range []int64{0, 1, -9, math.MinInt64} {
			l := make([]int64, 1000)
			for i := range l {
				l[i] = first + int64(i)*step
			}
			check(t, l)
			n := 0
			for range runs(l[1:]) {
				n++
			}
			// The first number's run, one where the step begins, one for all that follow.
			if n > 3 {
				t.Errorf("%d runs", n)
			}
		}
	}
}
