package column

import (
	"bytes"
	"math/rand"
	"slices"
	"strings"
	"testing"

	"tideline/api"
)

func num(i int64) api.Value   { return api.Value{Kind: api.Int, Int: i} }
func text(s string) api.Value { return api.Value{Kind: api.Text, Text: s} }
func truth(i int64) api.Value { return api.Value{Kind: api.Bool, Int: i} }

func TestPut(t *testing.T) {
	for _, x := range []struct {
		kind uint8
		l    []api.Value
		want string
		code api.Errno
	}{
		{api.Int, []api.Value{num(10), {}, num(20)}, "\x02\x01\x14\x01\x00", api.OK},
		{api.Text, []api.Value{text("a"), text("b"), text("a"), {}}, "\x08\x02\x01a\x01b\x00\x01\x00", api.OK},
		{api.Text, []api.Value{text(""), text("")}, "\x00\x01\x00\x00\x00", api.OK},
		{api.Text, nil, "\x00", api.OK},
		{api.Bool, []api.Value{truth(1), truth(0), truth(1)}, "\x00\x05", api.OK},
		{api.Bool, []api.Value{{}, {}}, "\x03", api.OK},
		{api.Int, nil, "", api.OK},
		{api.Bool, []api.Value{num(1)}, "", api.ErrArg},
		{api.Bool, []api.Value{truth(2)}, "", api.ErrArg},
		{api.Int, []api.Value{{Int: 3}}, "", api.ErrArg},
		{api.Int, []api.Value{{Kind: api.Int, Text: "x"}}, "", api.ErrArg},
		{api.Null, []api.Value{{}}, "", api.ErrArg},
		{4, nil, "", api.ErrArg},
		{api.Int, make([]api.Value, api.MaxRows+1), "", api.ErrArg},
	} {
		if b, code := Put(x.kind, x.l); string(b) != x.want || code != x.code {
			t.Errorf("Put(%d, %v) = %x, %d", x.kind, x.l[:min(9, len(x.l))], b, code)
		}
	}
}

func TestGetErrors(t *testing.T) {
	for _, x := range []struct {
		kind uint8
		b    string
		n    int
		code api.Errno
	}{
		{api.Text, "\x08\x02\x01a\x01b\x00\x01\x00", 4, api.OK},
		{api.Text, "\x08\x02\x01a\x01b\x00\x01\x00\x00", 4, api.ErrForm}, // bytes are left
		{api.Text, "\x08\x02\x01a\x01b\x00\x01", 4, api.ErrShort},
		{api.Text, "\x08\x02\x01a\x01b\x01\x00\x01", 4, api.ErrForm}, // another order
		{api.Text, "\x08\x02\x01a\x01b\x00\x00\x00", 4, api.ErrForm}, // a word of no mark
		{api.Text, "\x08\x02\x01a\x01b\x00\x02\x00", 4, api.ErrForm}, // a mark of no word
		{api.Text, "\x08\x04\x01a\x01b\x00\x02\x00", 4, api.ErrForm}, // more words than marks
		{api.Text, "\x08\x04", 4, api.ErrForm},
		{api.Text, "\x00\x02\x01a\x01a\x00\x01", 2, api.ErrForm}, // one word twice
		{api.Text, "\x00\x02\x01a\x01a\x00", 2, api.ErrShort},
		{api.Text, "\x00\x01\x05a", 2, api.ErrShort},
		{api.Text, "\x00\x01\xff\xff\xff\xff\xff\xff\xff\xff\xff\x01a", 2, api.ErrShort},
		{api.Text, "\x00\x81\x00", 2, api.ErrForm},
		{api.Text, "\x00", 2, api.ErrShort},
		{api.Text, "\x04\x00", 2, api.ErrForm},
		{api.Text, "", 2, api.ErrShort},
		{api.Bool, "\x00\x05", 3, api.OK},
		{api.Bool, "\x00\x08", 3, api.ErrForm},
		{api.Bool, "\x08\x05", 3, api.ErrForm},
		{api.Bool, "\x00\x05\x00", 3, api.ErrForm},
		{api.Bool, "\x00", 3, api.ErrShort},
		{api.Bool, "\x07", 3, api.OK},
		{api.Int, "\x02\x01\x14\x01\x00", 3, api.OK},
		{api.Int, "\x02\x01\x14\x01", 3, api.ErrShort},
		{api.Int, "\x02\x01\x14\x00", 3, api.ErrForm},
		{api.Int, "\x02\x01\x14\x01\x00\x00", 3, api.ErrForm},
		{api.Int, "", 0, api.OK},
		{api.Int, "\x00", 0, api.ErrForm},
		{api.Int, "", -1, api.ErrArg},
		{api.Int, "", api.MaxRows + 1, api.ErrArg},
		{api.Null, "", 0, api.ErrArg},
		{4, "", 0, api.ErrArg},
	} {
		l, code := Get(x.kind, []byte(x.b), x.n)
		if code != x.code || code != api.OK && l != nil || code == api.OK && len(l) != x.n {
			t.Errorf("Get(%d, %x, %d) = %v, %d", x.kind, x.b, x.n, l, code)
		}
	}
}

func random(r *rand.Rand, kind uint8) api.Value {
	if r.Intn(4) == 0 {
		return api.Value{}
	}
	switch kind {
	case api.Bool:
		return truth(int64(r.Intn(2)))
	case api.Int:
		return num(int64(r.Intn(5)) - 2)
	}
	return text(strings.Repeat("ab", r.Intn(4)))
}

func TestColumnsAndBytes(t *testing.T) {
	r := rand.New(rand.NewSource(1))
	for range 3000 {
		kind := uint8(1 + r.Intn(3))
		l := make([]api.Value, r.Intn(20))
		for i := range l {
			l[i] = random(r, kind)
		}
		b, code := Put(kind, l)
		if code != api.OK {
			t.Fatalf("Put(%v): %d", l, code)
		}
		g, code := Get(kind, b, len(l))
		if code != api.OK || !slices.Equal(g, l) {
			t.Fatalf("Get(Put(%v)) = %v, %d", l, g, code)
		}
		for i := range b {
			if _, code := Get(kind, b[:i], len(l)); code == api.OK {
				t.Fatalf("%d bytes of %x are a column", i, b)
			}
		}
		// Whatever is read is laid as just these bytes.
		for i := range b {
			if r.Intn(3) == 0 {
				b[i] = byte(r.Intn(4))
			}
		}
		if g, code := Get(kind, b, len(l)); code == api.OK {
			if c, _ := Put(kind, g); !bytes.Equal(b, c) {
				t.Fatalf("%x is read as %v", b, g)
			}
		}
	}
}

func TestWordsStandOnce(t *testing.T) {
	var l []api.Value
	for i := range 3000 {
		l = append(l, text([]string{"north-north-west", "south", "east"}[i%3]))
	}
	b, _ := Put(api.Text, l)
	if bytes.Count(b, []byte("north-north-west")) != 1 {
		t.Error("a word stands twice")
	}
}

func TestBounds(t *testing.T) {
	for _, x := range []struct{ l, want []api.Value }{
		{[]api.Value{num(3), {}, num(1), num(2)}, []api.Value{num(1), num(3)}},
		{[]api.Value{{}}, make([]api.Value, 2)},
		{nil, make([]api.Value, 2)},
		{[]api.Value{text("b"), text("ab"), text("")}, []api.Value{text(""), text("b")}},
		{[]api.Value{truth(1), truth(0)}, []api.Value{truth(0), truth(1)}},
		{[]api.Value{text(""), num(5), truth(1), {}}, []api.Value{truth(1), text("")}},
		{[]api.Value{num(-1 << 63), num(0)}, []api.Value{num(-1 << 63), num(0)}},
	} {
		a, b := Bounds(x.l)
		if a != x.want[0] || b != x.want[1] {
			t.Errorf("Bounds(%v) = %v, %v", x.l, a, b)
		}
	}
}

func TestAsManyAsMayBe(t *testing.T) {
	for kind := api.Bool; kind <= api.Text; kind++ {
		r := rand.New(rand.NewSource(1))
		l := make([]api.Value, api.MaxRows)
		for i := range l {
			l[i] = random(r, kind)
		}
		b, code := Put(kind, l)
		if code != api.OK {
			t.Fatal(code)
		}
		if g, code := Get(kind, b, len(l)); code != api.OK || !slices.Equal(g, l) {
			t.Errorf("%d: %d", kind, code)
		}
	}
}
