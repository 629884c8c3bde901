package bound

import (
	"math"
	"math/rand"
	"testing"

	"tideline/api"
	"tideline/expr"
	"tideline/parse"
	"tideline/span"
)

const low, high = api.MinTime - api.MaxEvery, api.MaxTime + api.MaxEvery

func where(t *testing.T, s string) []api.Expr {
	t.Helper()
	x, _, code := parse.Parse("delete from t where " + s)
	if code != api.OK {
		t.Fatalf("%s: %d", s, code)
	}
	return x.Where
}

func num(i int64) api.Value   { return api.Value{Kind: api.Int, Int: i} }
func text(s string) api.Value { return api.Value{Kind: api.Text, Text: s} }

func TestSpan(t *testing.T) {
	every := api.Span{From: low, To: high}
	for _, x := range []struct {
		s    string
		want api.Span
	}{
		{"time >= 3 AND time < 9 AND v = 1", api.Span{From: 3, To: 9}},
		{"time = 3 OR 9 > time", api.Span{From: low, To: 9}},
		{"time < 3 AND time > 5", api.Span{}},
		{"NULL = time", api.Span{}}, {"time <> NULL", api.Span{}}, {"v > NULL", api.Span{}}, {"NULL = NULL", api.Span{}},
		{"FALSE", api.Span{}}, {"NULL", api.Span{}}, {"TRUE", every}, {"5", every}, {"'a'", every}, {"time", every},
		{"time + 1 < 3", every}, {"NOT time < 3", every}, {"time < 3 AND time + 1 < 3", every}, {"time < 3 AND - v = 1", every}, {"time < 3 AND sum(v) = 1", every}, {"time < 3 AND count(*) = 1", every}, {"bucket(5, time) = 5 AND time = 5", every},
		{"time = 3", api.Span{From: 3, To: 4}}, {"3 = time", api.Span{From: 3, To: 4}},
		{"time <= 3", api.Span{From: low, To: 4}}, {"3 >= time", api.Span{From: low, To: 4}},
		{"time < 3", api.Span{From: low, To: 3}}, {"3 > time", api.Span{From: low, To: 3}},
		{"time >= 3", api.Span{From: 3, To: high}}, {"3 <= time", api.Span{From: 3, To: high}},
		{"time > 3", api.Span{From: 4, To: high}}, {"3 < time", api.Span{From: 4, To: high}},
		{"time <> 3", every}, {"3 <> time", every}, {"time = time", every}, {"time = 'a'", every}, {"time = TRUE", every}, {"v = 3", every}, {"time IS NULL", every}, {"time > v", every},
		{"time = 3 OR v = 1", every}, {"time = 3 OR FALSE", api.Span{From: 3, To: 4}}, {"NULL OR time = 3", api.Span{From: 3, To: 4}}, {"FALSE OR NULL", api.Span{}},
		{"time = 3 OR time = 9", api.Span{From: 3, To: 10}}, {"(time = 3 OR time = 9) AND time > 5", api.Span{From: 6, To: 10}},
		{"time = 9223372036854775807", api.Span{}}, {"time <= 9223372036854775807", every}, {"time > 9223372036854775807", api.Span{}}, {"time >= 9223372036854775807", api.Span{}}, {"time < 9223372036854775807", every},
	} {
		if g := Span(where(t, x.s), "time"); g != x.want {
			t.Errorf("%s: %v, not %v", x.s, g, x.want)
		}
	}
	if Span(nil, "time") != every || Span(where(t, "time = 3"), "v") != every {
		t.Error("no condition")
	}
	if two := append(where(t, "FALSE"), where(t, "FALSE")...); Span(two, "time") != every {
		t.Error("two conditions")
	}
	least := api.Expr{Op: api.OpLit, Value: num(math.MinInt64)}
	col := api.Expr{Op: api.OpCol, Name: "time"}
	for op, want := range map[uint8]api.Span{api.OpEq: {}, api.OpLt: {}, api.OpLe: {}, api.OpGt: every, api.OpGe: every} {
		if g := Span([]api.Expr{{Op: op, Args: []api.Expr{col, least}}}, "time"); g != want {
			t.Errorf("%d: %v", op, g)
		}
	}
}

func TestValue(t *testing.T) {
	for _, x := range []struct {
		s    string
		want api.Value
	}{
		{"d = 'x' AND v = 1", text("x")}, {"v = 1 AND d = 'x'", text("x")}, {"'x' = d OR d = 'x'", text("x")}, {"d = 'x' AND d = 'y'", text("x")},
		{"d = 7", num(7)}, {"d = FALSE", api.Value{Kind: api.Bool}}, {"(d = 'x' AND v = 1) OR d = 'x'", text("x")},
		{"d = 'x' OR d = 'y'", api.Value{}}, {"d <> 'x'", api.Value{}}, {"d = NULL", api.Value{}}, {"d >= 'x'", api.Value{}}, {"d = v", api.Value{}}, {"d = d", api.Value{}},
		{"d = 'x' OR v = 1", api.Value{}}, {"NOT d = 'x'", api.Value{}}, {"d", api.Value{}}, {"d = 'x' AND v + 1 = 2", api.Value{}}, {"d = 'x' AND max(v) = 2", api.Value{}}, {"'x' = 'x'", api.Value{}},
	} {
		v, ok := Value(where(t, x.s), "d")
		if v != x.want || ok != (x.want != api.Value{}) {
			t.Errorf("%s: %v, %v", x.s, v, ok)
		}
	}
	if v, ok := Value(nil, "d"); ok || v != (api.Value{}) {
		t.Error("no condition")
	}
	if _, ok := Value(append(where(t, "d = 1"), where(t, "d = 1")...), "d"); ok {
		t.Error("two conditions")
	}
}

func TestWhatHasNoForm(t *testing.T) {
	every := api.Span{From: low, To: high}
	no := api.Expr{Op: api.OpLit, Value: api.Value{Kind: api.Bool}}
	fixed := api.Expr{Op: api.OpEq, Args: []api.Expr{{Op: api.OpCol, Name: "d"}, {Op: api.OpLit, Value: num(3)}}}
	deep := func(n int) api.Expr {
		e := no
		for range n - 1 {
			e = api.Expr{Op: api.OpOr, Args: []api.Expr{e, no}}
		}
		return e
	}
	if (Span([]api.Expr{deep(32)}, "d") != api.Span{}) || Span([]api.Expr{deep(33)}, "d") != every || Span([]api.Expr{deep(60000)}, "d") != every {
		t.Error("deep ones")
	}
	for _, e := range []api.Expr{{}, {Op: 99}, {Op: api.OpAnd}, {Op: api.OpAnd, Args: []api.Expr{fixed}}, {Op: api.OpOr, Args: []api.Expr{fixed, fixed, fixed}},
		{Op: api.OpEq, Args: []api.Expr{fixed}}, {Op: api.OpLit, Value: api.Value{Kind: api.Bool, Int: 2}}, {Op: api.OpLit, Args: []api.Expr{no}},
		{Op: api.OpCol, Name: "d", Args: []api.Expr{no}}, {Op: api.OpNot}} {
		for _, x := range []api.Expr{e, {Op: api.OpAnd, Args: []api.Expr{fixed, e}}, {Op: api.OpAnd, Args: []api.Expr{fixed, {Op: api.OpNot, Args: []api.Expr{e}}}}} {
			if g := Span([]api.Expr{x}, "d"); g != every {
				t.Errorf("Span(%v) = %v", x, g)
			}
			if v, ok := Value([]api.Expr{x}, "d"); ok || v != (api.Value{}) {
				t.Errorf("Value(%v) = %v", x, v)
			}
		}
	}
}

// Of each row of which a condition is TRUE the column lies in its span, and is alike its value.
func TestWhatIsTrueLiesWithin(t *testing.T) {
	r := rand.New(rand.NewSource(1))
	cols := []api.Column{{Name: "time", Type: api.Int}, {Name: "d", Type: api.Int}}
	var random func(depth int) api.Expr
	random = func(depth int) api.Expr {
		leaf := func() api.Expr {
			switch r.Intn(4) {
			case 0:
				return api.Expr{Op: api.OpLit, Value: num(int64(r.Intn(4)))}
			case 1:
				return api.Expr{Op: api.OpLit}
			}
			return api.Expr{Op: api.OpCol, Name: cols[r.Intn(2)].Name}
		}
		switch {
		case depth == 0 || r.Intn(3) == 0:
			return api.Expr{Op: api.OpEq + uint8(r.Intn(6)), Args: []api.Expr{leaf(), leaf()}}
		case r.Intn(6) == 0:
			return api.Expr{Op: api.OpNot, Args: []api.Expr{random(depth - 1)}}
		}
		return api.Expr{Op: api.OpAnd + uint8(r.Intn(2)), Args: []api.Expr{random(depth - 1), random(depth - 1)}}
	}
	narrow := 0
	for range 5000 {
		l := []api.Expr{random(3)}
		s := Span(l, "time")
		v, ok := Value(l, "d")
		if ok || s != all() {
			narrow++
		}
		for time := range int64(5) {
			for d := range int64(5) {
				row := []api.Value{num(time), num(d)}
				yes, code := expr.True(l, cols, row)
				if code != api.OK {
					t.Fatalf("%v: %d", l, code)
				}
				if yes && (!span.Has(s, time) || ok && v != row[1]) {
					t.Fatalf("%v of %v: %v, %v", l, row, s, v)
				}
			}
		}
	}
	if narrow < 500 {
		t.Errorf("%d tell something", narrow)
	}
}
