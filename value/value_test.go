package value

import (
	"reflect"
	"testing"

	"tideline/api"
)

func num(i int64) api.Value   { return api.Value{Kind: api.Int, Int: i} }
func text(s string) api.Value { return api.Value{Kind: api.Text, Text: s} }
func truth(i int64) api.Value { return api.Value{Kind: api.Bool, Int: i} }

// some are good values, in order.
func some() []api.Value {
	return []api.Value{{}, truth(0), truth(1), num(-1 << 63), num(-5), num(0), num(9), num(1<<63 - 1), text(""), text("\x00"), text("'"), text("''"), text("a"), text("a', 'b"), text("ab"), text("b"), text("\xff")}
}

func TestGood(t *testing.T) {
	for _, v := range some() {
		if !Good(v) {
			t.Errorf("Good(%v) is false", v)
		}
	}
	for _, v := range []api.Value{{Int: 1}, {Text: "a"}, {Kind: api.Bool, Int: 2}, {Kind: api.Bool, Int: -1}, {Kind: api.Bool, Text: "a"}, {Kind: api.Int, Text: "a"}, {Kind: api.Text, Int: 1}, {Kind: 4}, {Kind: 255}} {
		if Good(v) {
			t.Errorf("Good(%v) is true", v)
		}
		if Word(v) != "?" || Line([]api.Value{v, num(1)}) != "?, 1" {
			t.Errorf("Word(%v) = %q", v, Word(v))
		}
	}
}

func sign(i, k int) int {
	if i < k {
		return -1
	} else if i > k {
		return 1
	}
	return 0
}

func TestCompareIsTotal(t *testing.T) {
	l := some()
	for i := range l {
		for k := range l {
			if Compare(l[i], l[k]) != sign(i, k) {
				t.Errorf("Compare(%v, %v) = %d", l[i], l[k], Compare(l[i], l[k]))
			}
			if (Word(l[i]) == Word(l[k])) != (i == k) {
				t.Errorf("words of %v and %v", l[i], l[k])
			}
		}
	}
	// Values that are not good stand by Kind, then Int, then Text.
	bad := []api.Value{{Int: -1}, {Int: 1, Text: "a"}, {Int: 1, Text: "b"}, {Kind: api.Bool, Int: 7}, {Kind: 9}, {Kind: 9, Int: 1}}
	for i := range bad {
		for k := range bad {
			if Compare(bad[i], bad[k]) != sign(i, k) {
				t.Errorf("Compare(%v, %v)", bad[i], bad[k])
			}
		}
	}
}

func TestRows(t *testing.T) {
	l := [][]api.Value{nil, {{}}, {{}, {}}, {{}, num(1)}, {num(1)}, {num(1), num(-3)}, {num(1), num(2)}, {num(1), num(2), {}}, {num(2)}, {text("a, b")}, {text("a"), text("b")}}
	l[9], l[10] = l[10], l[9]
	for i := range l {
		for k := range l {
			if Rows(l[i], l[k]) != sign(i, k) {
				t.Errorf("Rows(%v, %v) = %d", l[i], l[k], Rows(l[i], l[k]))
			}
			if i > 0 && k > 0 && (Line(l[i]) == Line(l[k])) != (i == k) {
				t.Errorf("lines of %v and %v", l[i], l[k])
			}
		}
	}
	if Rows(nil, []api.Value{}) != 0 || Line(nil) != "" || Line([]api.Value{}) != "" {
		t.Error("empty rows")
	}
}

func TestWords(t *testing.T) {
	for _, x := range []struct {
		v    api.Value
		want string
	}{{api.Value{}, "NULL"}, {truth(1), "TRUE"}, {truth(0), "FALSE"}, {num(0), "0"}, {num(-7), "-7"}, {num(-1 << 63), "-9223372036854775808"}, {text("it's"), "'it''s'"}, {text(""), "''"}, {text("''"), "''''''"}} {
		if w := Word(x.v); w != x.want {
			t.Errorf("Word(%v) = %s, not %s", x.v, w, x.want)
		}
	}
	if s := Line([]api.Value{num(1), {}, text("x"), truth(1)}); s != "1, NULL, 'x', TRUE" {
		t.Errorf("Line = %s", s)
	}
}

func TestSort(t *testing.T) {
	in := [][]api.Value{{num(2)}, {num(1), num(5)}, {num(1)}, {num(2)}, {}, {text("a")}}
	was := [][]api.Value{{num(2)}, {num(1), num(5)}, {num(1)}, {num(2)}, {}, {text("a")}}
	got := Sort(in)
	want := []string{"", "1", "1, 5", "2", "2", "'a'"}
	if len(got) != len(want) {
		t.Fatalf("Sort = %v", got)
	}
	for i := range want {
		if Line(got[i]) != want[i] {
			t.Errorf("row %d is %s", i, Line(got[i]))
		}
	}
	if !reflect.DeepEqual(in, was) {
		t.Error("what was handed in has changed")
	}
	for i := range got {
		for k := range got[i] {
			got[i][k] = num(77)
		}
		_ = append(got[i], num(78))
	}
	if !reflect.DeepEqual(in, was) {
		t.Error("what is handed out is shared")
	}
	if len(Sort(nil)) != 0 {
		t.Error("Sort(nil)")
	}
}
