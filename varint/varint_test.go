package varint

import (
	"bytes"
	"math"
	"testing"

	"tideline/api"
)

func numbers() []uint64 {
	l := []uint64{0, 1, 127, 128, 300, math.MaxUint64, math.MaxUint64 - 1}
	for i := range 64 {
		l = append(l, 1<<i, 1<<i-1, 1<<i+1)
	}
	return l
}

func TestPutExamples(t *testing.T) {
	for _, x := range []struct {
		b    string
		v    uint64
		want string
	}{{"", 0, "\x00"}, {"", 127, "\x7f"}, {"", 128, "\x80\x01"}, {"\xff", 300, "\xff\xac\x02"}, {"", math.MaxUint64, "\xff\xff\xff\xff\xff\xff\xff\xff\xff\x01"}} {
		if g := Put([]byte(x.b), x.v); string(g) != x.want {
			t.Errorf("Put(%x, %d) = %x", x.b, x.v, g)
		}
	}
}

func TestPutKeepsNothing(t *testing.T) {
	room := []byte{1, 2, 3, 4}
	g := Put(room[:1], 300)
	if !bytes.Equal(room, []byte{1, 2, 3, 4}) || !bytes.Equal(g, []byte{1, 0xac, 2}) {
		t.Errorf("%x, %x", room, g)
	}
	g[0] = 9
	if room[0] != 1 {
		t.Error("what is handed out is shared")
	}
}

func TestGet(t *testing.T) {
	for _, x := range []struct {
		b    string
		v    uint64
		n    int
		code api.Errno
	}{
		{"\xac\x02\xff", 300, 2, api.OK},
		{"\x00", 0, 1, api.OK},
		{"\x00\x00", 0, 1, api.OK},
		{"\x80", 0, 0, api.ErrShort},
		{"", 0, 0, api.ErrShort},
		{"\x80\x00", 0, 0, api.ErrForm},
		{"\x80\x80\x00", 0, 0, api.ErrForm},
		{"\xff\xff\xff\xff\xff\xff\xff\xff\xff", 0, 0, api.ErrShort},
		{"\xff\xff\xff\xff\xff\xff\xff\xff\xff\x01", math.MaxUint64, 10, api.OK},
		{"\x80\x80\x80\x80\x80\x80\x80\x80\x80\x01", 1 << 63, 10, api.OK},
		{"\x80\x80\x80\x80\x80\x80\x80\x80\x80\x00", 0, 0, api.ErrForm},
		{"\xff\xff\xff\xff\xff\xff\xff\xff\xff\x02", 0, 0, api.ErrForm},
		{"\xff\xff\xff\xff\xff\xff\xff\xff\xff\x81", 0, 0, api.ErrForm},
		{"\xff\xff\xff\xff\xff\xff\xff\xff\xff\xff\x01", 0, 0, api.ErrForm},
	} {
		v, n, code := Get([]byte(x.b))
		if v != x.v || n != x.n || code != x.code {
			t.Errorf("Get(%x) = %d, %d, %d", x.b, v, n, code)
		}
	}
}

func TestNumbersAndBytesAreEachOthers(t *testing.T) {
	l := numbers()
	for _, v := range l {
		b := Put(nil, v)
		if g, n, code := Get(append(b, 0x80)); g != v || n != len(b) || code != api.OK {
			t.Errorf("Get(Put(%d)) = %d, %d, %d", v, g, n, code)
		}
		for i := range b {
			if _, _, code := Get(b[:i]); code != api.ErrShort {
				t.Errorf("%d bytes of %x: %d", i, b, code)
			}
		}
		if len(b) < 1 || len(b) > 10 {
			t.Errorf("%d has %d bytes", v, len(b))
		}
		for _, w := range l {
			c := Put(nil, w)
			if w > v && len(c) < len(b) {
				t.Errorf("%d has fewer bytes than %d", w, v)
			}
			if w != v && bytes.HasPrefix(c, b) {
				t.Errorf("%x begins with %x", c, b)
			}
		}
	}
}

func TestZigzag(t *testing.T) {
	for i, v := range []int64{0, -1, 1, -2, 2, -3} {
		if Zig(v) != uint64(i) || Zag(uint64(i)) != v {
			t.Errorf("%d: %d, %d", v, Zig(v), Zag(uint64(i)))
		}
	}
	if Zig(math.MinInt64) != math.MaxUint64 || Zig(math.MaxInt64) != math.MaxUint64-1 {
		t.Error("the ends")
	}
	for _, u := range numbers() {
		if Zig(Zag(u)) != u || Zag(Zig(int64(u))) != int64(u) {
			t.Errorf("%d", u)
		}
	}
}
