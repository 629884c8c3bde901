package crc

import (
	"math/rand"
	"testing"
)

// slow is the sum bit by bit, as the chapter tells it.
func slow(b []byte) uint32 {
	r := ^uint32(0)
	for _, c := range b {
		for i := 7; i >= 0; i-- {
			bit := uint32(c>>uint(i)) & 1
			out := r >> 31
			r <<= 1
			if bit != out {
				r ^= 0x04c11db7
			}
		}
	}
	return ^r
}

func TestSum(t *testing.T) {
	for _, x := range []struct {
		b    string
		want uint32
	}{{"123456789", 0xfc891918}, {"", 0}, {"\x00", 0xb1f7404b}, {"\xff\xff\xff\xff", 0xffffffff}} {
		if g := Sum([]byte(x.b)); g != x.want {
			t.Errorf("Sum(%x) = %x", x.b, g)
		}
	}
	r := rand.New(rand.NewSource(1))
	for range 1000 {
		b := make([]byte, r.Intn(70))
		r.Read(b)
		if Sum(b) != slow(b) {
			t.Fatalf("Sum(%x) = %x, not %x", b, Sum(b), slow(b))
		}
	}
}

func TestFourBytesChangeIt(t *testing.T) {
	r := rand.New(rand.NewSource(2))
	for range 3000 {
		b := make([]byte, 4+r.Intn(100))
		r.Read(b)
		was := Sum(b)
		at := r.Intn(len(b) - 3)
		turn := 1 + r.Uint32()>>uint(r.Intn(32))
		if turn == 0 {
			continue
		}
		for i := range 4 {
			b[at+i] ^= byte(turn >> uint(8*i))
		}
		if Sum(b) == was {
			t.Fatalf("%x at %d does not change it", turn, at)
		}
	}
}

func TestWhatStandsBehindAndAhead(t *testing.T) {
	seen := map[uint32]int{}
	for n := range 3000 {
		b := make([]byte, n)
		s := Sum(append(b, "abc"...))
		if m, ok := seen[s]; ok {
			t.Fatalf("%d and %d bytes 0 ahead have one sum", m, n)
		}
		seen[s] = n
	}
	if Sum([]byte("a!")) == Sum([]byte("b!")) || Sum([]byte("axxxx")) == Sum([]byte("bxxxx")) {
		t.Error("unlike sums become like ones")
	}
}
