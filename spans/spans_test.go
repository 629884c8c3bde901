package spans

import (
	"math"
	"math/rand"
	"slices"
	"testing"

	"tideline/api"
)

func list(t ...int64) []api.Span {
	var l []api.Span
	for i := 0; i+1 < len(t); i += 2 {
		l = append(l, api.Span{From: t[i], To: t[i+1]})
	}
	return l
}

func TestExamples(t *testing.T) {
	for _, x := range []struct{ got, want []api.Span }{
		{Of(list(5, 9, 1, 3, 3, 4, 8, 8, 7, 12)...), list(1, 4, 5, 12)},
		{Of(), nil},
		{Of(list(3, 3, 9, 2)...), nil},
		{Of(list(math.MinInt64, math.MaxInt64, 3, 4)...), list(math.MinInt64, math.MaxInt64)},
		{Minus(list(0, 10), list(3, 5)), list(0, 3, 5, 10)},
		{And(list(0, 5, 7, 9), list(4, 8)), list(4, 5, 7, 8)},
		{Or(list(0, 2), list(2, 3)), list(0, 3)},
		{Minus(list(math.MinInt64, math.MaxInt64), list(0, 1)), list(math.MinInt64, 0, 1, math.MaxInt64)},
	} {
		if !slices.Equal(x.got, x.want) {
			t.Errorf("%v, not %v", x.got, x.want)
		}
	}
}

func TestWholeBuckets(t *testing.T) {
	for _, x := range []struct {
		l       []api.Span
		n       int64
		out, in []api.Span
		code    api.Errno
	}{
		{list(3, 4), 5, list(0, 5), nil, api.OK},
		{list(3, 12), 5, list(0, 15), list(5, 10), api.OK},
		{list(3, 7, 7, 12), 5, list(0, 15), list(5, 10), api.OK},
		{list(7, 12, 3, 7), 5, list(0, 15), list(5, 10), api.OK},
		{list(3, 4), 0, nil, nil, api.ErrArg},
		{nil, 0, nil, nil, api.ErrArg},
		{list(math.MinInt64, 4), 0, nil, nil, api.ErrArg},
		{list(math.MinInt64, 4), 5, nil, nil, api.ErrRange},
		{list(3, 4, 9, math.MaxInt64), 5, nil, nil, api.ErrRange},
		{list(3, 4, math.MaxInt64, math.MinInt64), 5, list(0, 5), nil, api.OK},
		{nil, 5, nil, nil, api.OK},
		{list(api.MinTime-api.MaxEvery, 0, 1, api.MaxTime+api.MaxEvery), 1, list(api.MinTime-api.MaxEvery, 0, 1, api.MaxTime+api.MaxEvery), list(api.MinTime-api.MaxEvery, 0, 1, api.MaxTime+api.MaxEvery), api.OK},
	} {
		out, code1 := Out(x.l, x.n)
		in, code2 := In(x.l, x.n)
		if !slices.Equal(out, x.out) || !slices.Equal(in, x.in) || code1 != x.code || code2 != x.code {
			t.Errorf("%v, %d: %v, %d; %v, %d", x.l, x.n, out, code1, in, code2)
		}
	}
}

const edge = 30

func random(r *rand.Rand) []api.Span {
	var l []api.Span
	for range r.Intn(6) {
		l = append(l, api.Span{From: r.Int63n(edge), To: r.Int63n(edge)})
	}
	return l
}

func inForm(l []api.Span) bool {
	for i, s := range l {
		if s.To <= s.From || i > 0 && s.From <= l[i-1].To {
			return false
		}
	}
	return true
}

func TestSets(t *testing.T) {
	r := rand.New(rand.NewSource(1))
	for range 3000 {
		a, b := random(r), random(r)
		wasA, wasB := slices.Clone(a), slices.Clone(b)
		n := 1 + r.Int63n(6)
		out, _ := Out(a, n)
		in, _ := In(a, n)
		made := [][]api.Span{Of(a...), Or(a, b), And(a, b), Minus(a, b), out, in}
		for _, l := range made {
			if !inForm(l) {
				t.Fatalf("%v is not in form", l)
			}
		}
		for x := int64(-9); x < edge+9; x++ {
			ha, hb := Has(a, x), Has(b, x)
			some, all := false, true
			first := x - (x%n+n)%n
			for y := first; y < first+n; y++ {
				some, all = some || Has(a, y), all && Has(a, y)
			}
			for i, want := range []bool{ha, ha || hb, ha && hb, ha && !hb, some, all} {
				if Has(made[i], x) != want {
					t.Fatalf("%v, %v: number %d is %v", a, b, i, made[i])
				}
			}
		}
		if !slices.Equal(a, wasA) || !slices.Equal(b, wasB) {
			t.Fatal("what was handed in has changed")
		}
		if !Same(Or(a, b), Or(b, a)) || !Same(And(a, b), And(b, a)) || !Same(a, Of(a...)) || Same(a, b) != slices.Equal(Of(a...), Of(b...)) {
			t.Fatalf("%v, %v: sets", a, b)
		}
		if again, _ := Out(out, n); !slices.Equal(again, out) {
			t.Fatalf("Out of %v", out)
		}
		if again, _ := In(out, n); !slices.Equal(again, out) {
			t.Fatalf("In of %v", out)
		}
	}
}
