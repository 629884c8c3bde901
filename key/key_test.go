package key

import (
	"bytes"
	"slices"
	"strings"
	"testing"

	"tideline/api"
)

func num(i int64) api.Value   { return api.Value{Kind: api.Int, Int: i} }
func text(s string) api.Value { return api.Value{Kind: api.Text, Text: s} }
func truth(i int64) api.Value { return api.Value{Kind: api.Bool, Int: i} }

// some are values, in order.
func some() []api.Value {
	return []api.Value{{}, truth(0), truth(1), num(-1 << 63), num(-256), num(-1), num(0), num(1), num(255), num(1<<63 - 1), text(""), text("\x00"), text("\x00\x00"), text("\x00\x01"), text("\x00a"), text("\x00\xff"), text("\x01"), text("a"), text("a\x00"), text("a\x00b"), text("a\x01"), text("ab"), text("b"), text("\xff"), text("\xff\xff")}
}

func must(t *testing.T, l ...api.Value) []byte {
	t.Helper()
	b, code := Append(nil, l...)
	if code != api.OK {
		t.Fatalf("Append(%v): %d", l, code)
	}
	return b
}

func TestAppend(t *testing.T) {
	for _, x := range []struct {
		l    []api.Value
		want string
	}{
		{[]api.Value{{}, truth(1), num(1), text("a")}, "\x01\x02\x01\x03\x80\x00\x00\x00\x00\x00\x00\x01\x04a\x00\x01"},
		{[]api.Value{num(-1)}, "\x03\x7f\xff\xff\xff\xff\xff\xff\xff"},
		{[]api.Value{text("\x00")}, "\x04\x00\xff\x00\x01"},
		{nil, ""},
	} {
		b, code := Append([]byte("z"), x.l...)
		if code != api.OK || string(b) != "z"+x.want {
			t.Errorf("Append(%v) = %x, %d", x.l, b, code)
		}
	}
	for _, v := range []api.Value{truth(2), truth(-1), {Int: 1}, {Text: "a"}, {Kind: api.Bool, Text: "a"}, {Kind: api.Int, Text: "a"}, {Kind: api.Text, Int: 1}, {Kind: 4}} {
		if b, code := Append([]byte("z"), num(1), v); code != api.ErrArg || b != nil {
			t.Errorf("Append(%v) = %x, %d", v, b, code)
		}
	}
}

func TestNothingIsShared(t *testing.T) {
	room := []byte("abcdefghijklmnopqrst")
	b, _ := Append(room[:2], truth(1))
	c := After(room[:2])
	if string(room) != "abcdefghijklmnopqrst" || string(b) != "ab\x02\x01" || string(c) != "ab\xff" {
		t.Errorf("%q, %q, %q", room, b, c)
	}
	b[0], c[0] = 'z', 'z'
	if room[0] != 'a' {
		t.Error("what is handed out is shared")
	}
}

func TestParseErrors(t *testing.T) {
	for _, x := range []struct {
		b    string
		code api.Errno
	}{
		{"\x05", api.ErrForm}, {"\x00", api.ErrForm}, {"\x01\xff", api.ErrForm},
		{"\x02", api.ErrShort}, {"\x02\x02", api.ErrForm},
		{"\x03", api.ErrShort}, {"\x03\x80\x00\x00\x00\x00\x00\x00", api.ErrShort},
		{"\x04", api.ErrShort}, {"\x04a", api.ErrShort}, {"\x04a\x00", api.ErrShort}, {"\x04\x00\xff", api.ErrShort}, {"\x04\x00\x02", api.ErrForm}, {"\x04\x00\x00\x01", api.ErrForm},
		{"\x01\x02\x02\x05", api.ErrForm}, {"\x01\x04a\x00\x01\x02", api.ErrShort},
	} {
		if l, code := Parse([]byte(x.b)); code != x.code || len(l) != 0 {
			t.Errorf("Parse(%x) = %v, %d", x.b, l, code)
		}
	}
	if l, code := Parse(nil); code != api.OK || len(l) != 0 {
		t.Errorf("Parse of nothing: %v, %d", l, code)
	}
}

// rows are all rows of up to two values.
func rows() [][]api.Value {
	l := [][]api.Value{nil}
	for _, v := range some() {
		l = append(l, []api.Value{v})
		for _, w := range some() {
			l = append(l, []api.Value{v, w})
		}
	}
	return l
}

// place tells where a row's values stand among those of some, as a text that stands in the order of rows.
func place(l []api.Value) string {
	var s strings.Builder
	for _, v := range l {
		s.WriteByte(byte('a' + slices.Index(some(), v)))
	}
	return s.String()
}

func TestRowsAndBytes(t *testing.T) {
	l := rows()
	for _, r := range l {
		b := must(t, r...)
		if g, code := Parse(b); code != api.OK || !slices.Equal(g, r) {
			t.Errorf("Parse(Append(%v)) = %v, %d", r, g, code)
		}
		for i := range b {
			if g, code := Parse(b[:i]); code == api.OK && !bytes.Equal(must(t, g...), b[:i]) {
				t.Errorf("%x is read as %v", b[:i], g)
			}
		}
	}
}

func TestOrder(t *testing.T) {
	l := rows()
	for i := 0; i < len(l); i += 3 {
		b := must(t, l[i]...)
		p := place(l[i])
		for k := range l {
			c, q := must(t, l[k]...), place(l[k])
			if bytes.Compare(b, c) != strings.Compare(p, q) {
				t.Fatalf("%v and %v stand otherwise as bytes", l[i], l[k])
			}
			within := bytes.Compare(c, b) >= 0 && bytes.Compare(c, After(b)) < 0
			if within != strings.HasPrefix(q, p) {
				t.Fatalf("%v begins with %v: %v", l[k], l[i], !within)
			}
		}
	}
}
