package expr

import (
	"math"
	"math/big"
	"math/rand"
	"testing"

	"tideline/api"
	"tideline/value"
)

func num(i int64) api.Value   { return api.Value{Kind: api.Int, Int: i} }
func text(s string) api.Value { return api.Value{Kind: api.Text, Text: s} }

func col(s string) api.Expr                 { return api.Expr{Op: api.OpCol, Name: s} }
func lit(v api.Value) api.Expr              { return api.Expr{Op: api.OpLit, Value: v} }
func op(o uint8, args ...api.Expr) api.Expr { return api.Expr{Op: o, Args: args} }
func on(o uint8, l ...api.Value) api.Expr {
	e := api.Expr{Op: o}
	for _, v := range l {
		e.Args = append(e.Args, lit(v))
	}
	return e
}
func bucket_(w int64, v api.Value) api.Expr {
	return api.Expr{Op: api.OpBucket, Width: w, Args: []api.Expr{lit(v)}}
}

func columns() []api.Column {
	return []api.Column{{Name: "b", Type: api.Bool}, {Name: "i", Type: api.Int}, {Name: "t", Type: api.Text}, {Name: "i", Type: api.Text}, {Name: "n"}}
}

func TestType(t *testing.T) {
	b, i, s, n := col("b"), col("i"), col("t"), col("n")
	for k, x := range []struct {
		e    api.Expr
		want uint8
		code api.Errno
	}{
		{b, api.Bool, api.OK}, {i, api.Int, api.OK}, {s, api.Text, api.OK}, {n, api.Null, api.OK}, {col("x"), 0, api.ErrName},
		{lit(num(1)), api.Int, api.OK}, {lit(api.Value{}), api.Null, api.OK}, {lit(api.Value{Int: 1}), 0, api.ErrForm},
		{op(api.OpNeg, i), api.Int, api.OK}, {op(api.OpNeg, n), api.Int, api.OK}, {op(api.OpNeg, s), 0, api.ErrType},
		{op(api.OpMod, i, n), api.Int, api.OK}, {op(api.OpDiv, i, b), 0, api.ErrType}, {op(api.OpAdd, i), 0, api.ErrForm},
		{op(api.OpNot, b), api.Bool, api.OK}, {op(api.OpNot, n), api.Bool, api.OK}, {op(api.OpNot, i), 0, api.ErrType},
		{op(api.OpAnd, b, n), api.Bool, api.OK}, {op(api.OpOr, b, s), 0, api.ErrType},
		{op(api.OpEq, s, s), api.Bool, api.OK}, {op(api.OpNe, n, s), api.Bool, api.OK}, {op(api.OpLt, s, n), api.Bool, api.OK}, {op(api.OpGe, s, i), 0, api.ErrType},
		{op(api.OpIsNull, s), api.Bool, api.OK}, {op(api.OpNotNull, n), api.Bool, api.OK}, {op(api.OpIsNull), 0, api.ErrForm},
		{api.Expr{Op: api.OpBucket, Width: 5, Args: []api.Expr{i}}, api.Int, api.OK}, {api.Expr{Op: api.OpBucket, Width: 5, Args: []api.Expr{s}}, 0, api.ErrType},
		{api.Expr{Op: api.OpBucket, Args: []api.Expr{i}}, 0, api.ErrForm}, {api.Expr{Op: api.OpBucket, Width: api.MaxEvery + 1, Args: []api.Expr{i}}, 0, api.ErrForm},
		{op(api.OpCountAll), 0, api.ErrGroup}, {op(api.OpSum, i), 0, api.ErrGroup}, {op(api.OpSum, col("x")), 0, api.ErrName}, {op(api.OpSum), 0, api.ErrForm}, {op(api.OpFirst, i), 0, api.ErrForm}, {op(api.OpLast, i, i), 0, api.ErrGroup},
		{op(0), 0, api.ErrForm}, {op(29), 0, api.ErrForm}, {op(255, col("x")), 0, api.ErrName},
		{op(api.OpCol, i), 0, api.ErrForm}, {op(api.OpLit, i), 0, api.ErrForm},
		{op(api.OpAdd, s, col("x")), 0, api.ErrName}, {op(api.OpAdd, op(api.OpNeg, s), col("x")), 0, api.ErrType}, {op(api.OpAdd, col("x"), op(api.OpNeg, s)), 0, api.ErrName},
		{op(api.OpAdd, i, i, col("x")), 0, api.ErrName},
		{api.Expr{Op: api.OpCol, Name: "b", Width: 7, Value: num(3)}, api.Bool, api.OK},
	} {
		if g, code := Type(x.e, columns()); g != x.want || code != x.code {
			t.Errorf("%d: Type(%v) = %d, %d", k, x.e, g, code)
		}
	}
}

func TestWorth(t *testing.T) {
	yes, no, null := truth(true), truth(false), api.Value{}
	least, most := num(math.MinInt64), num(math.MaxInt64)
	for k, x := range []struct {
		e    api.Expr
		want api.Value
		code api.Errno
	}{
		{on(api.OpDiv, num(7), num(-2)), num(-3), api.OK}, {on(api.OpMod, num(7), num(-2)), num(1), api.OK}, {on(api.OpDiv, num(-7), num(2)), num(-3), api.OK}, {on(api.OpMod, num(-7), num(2)), num(-1), api.OK},
		{bucket_(5, num(-7)), num(-10), api.OK}, {bucket_(5, num(7)), num(5), api.OK}, {bucket_(5, null), null, api.OK}, {bucket_(5, least), null, api.ErrOver}, {bucket_(1, least), least, api.OK}, {bucket_(5, text("a")), null, api.ErrType}, {bucket_(0, num(1)), null, api.ErrForm},
		{on(api.OpDiv, num(1), num(0)), null, api.ErrZero}, {on(api.OpDiv, null, num(0)), null, api.OK}, {on(api.OpMod, num(1), num(0)), null, api.ErrZero}, {on(api.OpMod, null, num(0)), null, api.OK},
		{on(api.OpDiv, least, num(-1)), null, api.ErrOver}, {on(api.OpMod, least, num(-1)), num(0), api.OK}, {on(api.OpNeg, least), null, api.ErrOver}, {on(api.OpNeg, most), num(-math.MaxInt64), api.OK},
		{on(api.OpAdd, most, num(1)), null, api.ErrOver}, {on(api.OpAdd, num(1), null), null, api.OK}, {on(api.OpAdd, null, text("a")), null, api.ErrType}, {on(api.OpSub, num(0), least), null, api.ErrOver},
		{on(api.OpAnd, null, no), no, api.OK}, {on(api.OpAnd, no, null), no, api.OK}, {on(api.OpOr, null, yes), yes, api.OK}, {on(api.OpOr, yes, null), yes, api.OK},
		{on(api.OpAnd, null, yes), null, api.OK}, {on(api.OpAnd, yes, yes), yes, api.OK}, {on(api.OpOr, no, null), null, api.OK}, {on(api.OpOr, no, no), no, api.OK}, {on(api.OpAnd, null, null), null, api.OK},
		{on(api.OpAnd, no, num(1)), null, api.ErrType}, {on(api.OpOr, yes, text("a")), null, api.ErrType}, {on(api.OpNot, num(1)), null, api.ErrType},
		{on(api.OpNot, null), null, api.OK}, {on(api.OpNot, yes), no, api.OK}, {on(api.OpNot, no), yes, api.OK},
		{on(api.OpEq, null, null), null, api.OK}, {on(api.OpIsNull, null), yes, api.OK}, {on(api.OpNotNull, null), no, api.OK}, {on(api.OpIsNull, text("")), no, api.OK}, {on(api.OpNotNull, no), yes, api.OK},
		{on(api.OpLt, text("a"), text("ab")), yes, api.OK}, {on(api.OpGt, yes, no), yes, api.OK}, {on(api.OpLe, num(2), num(2)), yes, api.OK}, {on(api.OpGe, num(1), num(2)), no, api.OK}, {on(api.OpNe, num(1), num(2)), yes, api.OK},
		{on(api.OpEq, num(1), text("a")), null, api.ErrType}, {on(api.OpEq, num(1), yes), null, api.ErrType}, {on(api.OpEq, num(1), null), null, api.OK},
		{op(api.OpOr, on(api.OpIsNull, null), on(api.OpDiv, num(1), num(0))), null, api.ErrZero},
		{op(api.OpAnd, lit(yes), op(api.OpEq, on(api.OpDiv, num(1), num(0)), on(api.OpNeg, least))), null, api.ErrZero},
		{op(api.OpAdd, on(api.OpNeg, least), on(api.OpDiv, num(1), num(0))), null, api.ErrOver},
		{op(api.OpCountAll), null, api.ErrGroup}, {on(api.OpSum, num(1)), null, api.ErrGroup}, {on(api.OpSum), null, api.ErrForm}, {op(77), null, api.ErrForm},
		{col("b"), yes, api.OK}, {col("i"), num(3), api.OK}, {col("t"), text("z"), api.OK}, {col("n"), null, api.ErrName}, {col("i"), num(3), api.OK}, {col("x"), null, api.ErrName},
		{lit(api.Value{Kind: api.Bool, Int: 2}), null, api.ErrForm}, {op(api.OpCol, lit(null)), null, api.ErrForm}, {op(api.OpCol, col("x")), null, api.ErrName},
	} {
		// The row has no value for the last column.
		if g, code := Eval(x.e, columns(), []api.Value{yes, num(3), text("z"), null}); g != x.want || code != x.code {
			t.Errorf("%d: Eval(%v) = %v, %d", k, x.e, g, code)
		}
	}
	if v, code := Eval(col("b"), columns(), []api.Value{{Kind: api.Bool, Int: 2}}); v != null || code != api.ErrType {
		t.Errorf("a value that is not good: %v, %d", v, code)
	}
}

func TestArithmetic(t *testing.T) {
	some := []int64{math.MinInt64, math.MinInt64 + 1, -1 << 32, -1<<31 - 1, -7, -1, 0, 1, 2, 3, 1 << 31, 1 << 32, math.MaxInt64 - 1, math.MaxInt64}
	for _, a := range some {
		for _, b := range some {
			x, y := big.NewInt(a), big.NewInt(b)
			want := map[uint8]*big.Int{api.OpAdd: new(big.Int).Add(x, y), api.OpSub: new(big.Int).Sub(x, y), api.OpMul: new(big.Int).Mul(x, y)}
			if b != 0 {
				want[api.OpDiv], want[api.OpMod] = new(big.Int).Quo(x, y), new(big.Int).Rem(x, y)
			}
			for o, w := range want {
				v, code := Eval(on(o, num(a), num(b)), nil, nil)
				if w.IsInt64() && (code != api.OK || v != num(w.Int64())) || !w.IsInt64() && (code != api.ErrOver || v != api.Value{}) {
					t.Errorf("%d of %d, %d: %v, %d", o, a, b, v, code)
				}
			}
		}
	}
}

func TestTrue(t *testing.T) {
	for _, x := range []struct {
		l    []api.Expr
		want bool
		code api.Errno
	}{
		{nil, true, api.OK}, {[]api.Expr{}, true, api.OK},
		{[]api.Expr{lit(truth(true))}, true, api.OK}, {[]api.Expr{lit(truth(false))}, false, api.OK}, {[]api.Expr{lit(api.Value{})}, false, api.OK},
		{[]api.Expr{lit(num(1))}, false, api.ErrType}, {[]api.Expr{lit(text("a"))}, false, api.ErrType}, {[]api.Expr{col("x")}, false, api.ErrName},
		{[]api.Expr{on(api.OpDiv, num(1), num(0))}, false, api.ErrZero},
	} {
		if g, code := True(x.l, nil, nil); g != x.want || code != x.code {
			t.Errorf("True(%v) = %v, %d", x.l, g, code)
		}
	}
}

func TestSafe(t *testing.T) {
	for o := range 29 {
		o := uint8(o)
		e := op(api.OpNot, op(o))
		unsafe := o >= api.OpNeg && o <= api.OpMod && o != api.OpNot || o >= api.OpBucket
		if Safe(e) == unsafe || Safe(op(o)) == unsafe {
			t.Errorf("Safe of %d", o)
		}
	}
}

func TestSame(t *testing.T) {
	l := []api.Expr{col("a"), col("b"), lit(num(1)), lit(num(2)), {Op: api.OpCol, Name: "a", Width: 1}, {Op: api.OpCol, Name: "a", Value: num(1)}, op(api.OpNot, col("a")), op(api.OpNeg, col("a")), op(api.OpNot, col("b")), op(api.OpAdd, col("a"), col("b")), op(api.OpAdd, col("b"), col("a")), op(api.OpAdd, col("a"))}
	for i := range l {
		for k := range l {
			if Same(l[i], l[k]) != (i == k) {
				t.Errorf("Same(%v, %v)", l[i], l[k])
			}
		}
	}
	if !Same(api.Expr{Op: 1, Args: []api.Expr{}}, api.Expr{Op: 1}) {
		t.Error("an empty list is none")
	}
}

// What has a type is of each row that fits worth Null, or a value of that type, or it is ErrZero, or ErrOver.
func TestTypesHold(t *testing.T) {
	r := rand.New(rand.NewSource(1))
	cols := []api.Column{{Name: "b", Type: api.Bool}, {Name: "i", Type: api.Int}, {Name: "t", Type: api.Text}}
	some := [][]api.Value{{{}, truth(false), truth(true)}, {{}, num(0), num(-1), num(3), num(math.MinInt64), num(math.MaxInt64)}, {{}, text(""), text("a")}}
	var random func(depth int) api.Expr
	random = func(depth int) api.Expr {
		if depth == 0 || r.Intn(5) == 0 {
			if r.Intn(2) == 0 {
				return col(cols[r.Intn(3)].Name)
			}
			l := some[r.Intn(3)]
			return lit(l[r.Intn(len(l))])
		}
		e := api.Expr{Op: uint8(3 + r.Intn(18)), Width: 1 + int64(r.Intn(9))}
		for range arity(e.Op) {
			e.Args = append(e.Args, random(depth-1))
		}
		return e
	}
	typed := 0
	for range 60000 {
		e := random(r.Intn(4))
		kind, code := Type(e, cols)
		if code != api.OK {
			continue
		}
		typed++
		row := []api.Value{some[0][r.Intn(3)], some[1][r.Intn(6)], some[2][r.Intn(3)]}
		v, code := Eval(e, cols, row)
		if code != api.OK && (Safe(e) || code != api.ErrZero && code != api.ErrOver) {
			t.Fatalf("%v is %d", e, code)
		}
		if !value.Good(v) || v.Kind != api.Null && v.Kind != kind {
			t.Fatalf("%v has the type %d, and is worth %v", e, kind, v)
		}
	}
	if typed < 5000 {
		t.Errorf("%d have a type", typed)
	}
}

func TestDeepOnes(t *testing.T) {
	e := lit(truth(true))
	for range 60000 {
		e = op(api.OpNot, e)
	}
	if v, code := Eval(e, nil, nil); v != truth(true) || code != api.OK {
		t.Errorf("%v, %d", v, code)
	}
	if k, code := Type(e, nil); k != api.Bool || code != api.OK || !Safe(e) || !Same(e, e) {
		t.Errorf("%d, %d", k, code)
	}
}

func TestComparisons(t *testing.T) {
	rows := [][]api.Value{{num(-3), num(0), num(7)}, {text(""), text("a"), text("ab")}, {truth(false), truth(true)}}
	for _, l := range rows {
		for i := range l {
			for k := range l {
				for o, want := range map[uint8]bool{api.OpEq: i == k, api.OpNe: i != k, api.OpLt: i < k, api.OpLe: i <= k, api.OpGt: i > k, api.OpGe: i >= k} {
					if v, code := Eval(on(o, l[i], l[k]), nil, nil); v != truth(want) || code != api.OK {
						t.Errorf("%d of %v, %v: %v, %d", o, l[i], l[k], v, code)
					}
				}
			}
		}
	}
}

func TestAggregatesHaveNoWorth(t *testing.T) {
	for o := api.OpCountAll; o <= api.OpLast; o++ {
		for n := range 4 {
			want := api.ErrForm
			if n == map[uint8]int{api.OpCountAll: 0, api.OpFirst: 2, api.OpLast: 2, api.OpCount: 1, api.OpSum: 1, api.OpMin: 1, api.OpMax: 1, api.OpAvg: 1}[o] {
				want = api.ErrGroup
			}
			e := on(o, make([]api.Value, n)...)
			_, code1 := Type(e, nil)
			if _, code2 := Eval(e, nil, nil); code1 != want || code2 != want {
				t.Errorf("%d of %d: %d, %d", o, n, code1, code2)
			}
		}
	}
}
