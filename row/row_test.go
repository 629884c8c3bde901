package row

import (
	"bytes"
	"slices"
	"strings"
	"testing"

	"tideline/api"
)

func num(i int64) api.Value   { return api.Value{Kind: api.Int, Int: i} }
func text(s string) api.Value { return api.Value{Kind: api.Text, Text: s} }
func truth(i int64) api.Value { return api.Value{Kind: api.Bool, Int: i} }

func TestPut(t *testing.T) {
	for _, x := range []struct {
		types []uint8
		l     []api.Value
		want  string
		code  api.Errno
	}{
		{[]uint8{api.Int, api.Text, api.Bool}, []api.Value{num(-1), text("ab"), {}}, "\x04\x01\x02ab", api.OK},
		{[]uint8{api.Bool}, []api.Value{truth(1)}, "\x00\x01", api.OK},
		{nil, nil, "", api.OK},
		{[]uint8{api.Int, api.Int, api.Int, api.Int, api.Int, api.Int, api.Int, api.Int, api.Int}, make([]api.Value, 9), "\xff\x01", api.OK},
		{[]uint8{api.Int}, []api.Value{truth(1)}, "", api.ErrArg},
		{[]uint8{api.Null}, []api.Value{{}}, "", api.ErrArg},
		{[]uint8{4}, []api.Value{{Kind: 4}}, "", api.ErrArg},
		{[]uint8{api.Int}, nil, "", api.ErrArg},
		{[]uint8{api.Int}, []api.Value{num(1), num(2)}, "", api.ErrArg},
		{[]uint8{api.Bool}, []api.Value{truth(2)}, "", api.ErrArg},
		{[]uint8{api.Int}, []api.Value{{Kind: api.Int, Text: "a"}}, "", api.ErrArg},
		{[]uint8{api.Int}, []api.Value{{Int: 1}}, "", api.ErrArg},
		{[]uint8{api.Text}, []api.Value{{Kind: api.Text, Int: 1}}, "", api.ErrArg},
	} {
		if b, code := Put(x.types, x.l); string(b) != x.want || code != x.code {
			t.Errorf("Put(%v, %v) = %x, %d", x.types, x.l, b, code)
		}
	}
}

func TestGetErrors(t *testing.T) {
	three := []uint8{api.Int, api.Text, api.Bool}
	long := strings.Repeat("\xff", 9)
	for _, x := range []struct {
		types []uint8
		b     string
		code  api.Errno
	}{
		{three, "\x04\x01\x02ab", api.OK},
		{three, "\x04\x01\x02ab\x00", api.ErrForm},
		{three, "\x04\x01\x02a", api.ErrShort},
		{three, "\x08\x01\x02ab", api.ErrForm},
		{three, "\x80", api.ErrForm},
		{three, "", api.ErrShort},
		{three, "\x00", api.ErrShort},
		{three, "\x00\x80\x00", api.ErrForm},
		{three, "\x00\x01\x02ab", api.ErrShort},
		{three, "\x00\x01\x02ab\x02", api.ErrForm},
		{three, "\x00\x01\x02ab\x01", api.OK},
		{three, "\x05\x82\x00ab", api.ErrForm},
		{three, "\x05" + long + "\x01", api.ErrShort},
		{three, "\x05" + long + "\x02", api.ErrForm},
		{[]uint8{api.Int, 0}, "", api.ErrArg},
		{[]uint8{9}, "", api.ErrArg},
		{nil, "", api.OK},
		{nil, "\x00", api.ErrForm},
	} {
		l, code := Get(x.types, []byte(x.b))
		if code != x.code || code != api.OK && l != nil {
			t.Errorf("Get(%v, %x) = %v, %d", x.types, x.b, l, code)
		}
	}
}

func TestRowsAndBytes(t *testing.T) {
	kinds := [][]api.Value{
		{{}, truth(0), truth(1)},
		{{}, num(0), num(-1), num(63), num(64), num(-1 << 63), num(1<<63 - 1)},
		{{}, text(""), text("a"), text("\x00"), text(strings.Repeat("x", 200))},
	}
	types := []uint8{api.Bool, api.Int, api.Text, api.Int}
	var all [][]byte
	for _, a := range kinds[0] {
		for _, b := range kinds[1] {
			for _, c := range kinds[2] {
				for _, d := range kinds[1] {
					l := []api.Value{a, b, c, d}
					x, code := Put(types, l)
					if code != api.OK {
						t.Fatalf("Put(%v): %d", l, code)
					}
					g, code := Get(types, x)
					if code != api.OK || !slices.Equal(g, l) {
						t.Fatalf("Get(Put(%v)) = %v, %d", l, g, code)
					}
					for i := range x {
						if _, code := Get(types, x[:i]); code != api.ErrShort {
							t.Fatalf("%d bytes of %x: %d", i, x, code)
						}
					}
					all = append(all, x)
				}
			}
		}
	}
	slices.SortFunc(all, bytes.Compare)
	for i := 1; i < len(all); i++ {
		if bytes.HasPrefix(all[i], all[i-1]) {
			t.Fatalf("%x begins with %x", all[i], all[i-1])
		}
	}
}

// What is read as a row is laid as just these bytes.
func TestOtherBytesAreNone(t *testing.T) {
	types := []uint8{api.Bool, api.Text}
	b := make([]byte, 4)
	for n := range 4 {
		for i := range 1 << (8 * min(n, 2)) {
			b[0], b[1], b[2], b[3] = byte(i), byte(i>>8), 'a', 1
			l, code := Get(types, b[:n])
			if code != api.OK {
				continue
			}
			if x, _ := Put(types, l); !bytes.Equal(x, b[:n]) {
				t.Fatalf("%x is read as %v", b[:n], l)
			}
		}
	}
}
