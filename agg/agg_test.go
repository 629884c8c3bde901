package agg

import (
	"math"
	"math/big"
	"math/rand"
	"testing"

	"tideline/api"
	"tideline/value"
)

func num(i int64) api.Value   { return api.Value{Kind: api.Int, Int: i} }
func text(s string) api.Value { return api.Value{Kind: api.Text, Text: s} }
func truth(i int64) api.Value { return api.Value{Kind: api.Bool, Int: i} }

type pair struct{ a, b api.Value }

func ops() []uint8 {
	return []uint8{api.OpCountAll, api.OpCount, api.OpSum, api.OpMin, api.OpMax, api.OpAvg, api.OpFirst, api.OpLast}
}

func fed(t *testing.T, op uint8, l ...pair) *State {
	t.Helper()
	s, code := New(op)
	if code != api.OK {
		t.Fatalf("New(%d): %d", op, code)
	}
	for _, p := range l {
		s.Feed(p.a, p.b)
	}
	return s
}

func firsts(l ...api.Value) []pair {
	var out []pair
	for _, v := range l {
		out = append(out, pair{a: v})
	}
	return out
}

func TestNew(t *testing.T) {
	for op := range 256 {
		is, args := false, 0
		switch uint8(op) {
		case api.OpCountAll:
			is = true
		case api.OpCount, api.OpSum, api.OpMin, api.OpMax, api.OpAvg:
			is, args = true, 1
		case api.OpFirst, api.OpLast:
			is, args = true, 2
		}
		s, code := New(uint8(op))
		if Is(uint8(op)) != is || Args(uint8(op)) != args || (code == api.OK) != is || (s != nil) != is || !is && code != api.ErrArg {
			t.Errorf("%d: %v, %d, %d", op, Is(uint8(op)), Args(uint8(op)), code)
		}
	}
}

func TestAnswers(t *testing.T) {
	three := firsts(num(3), api.Value{}, num(4))
	mixed := firsts(text("a"), num(7), truth(1), api.Value{}, text(""))
	pairs := []pair{{num(5), num(2)}, {num(7), num(1)}, {num(6), num(1)}, {num(9), api.Value{}}, {num(4), num(2)}}
	nulls := []pair{{api.Value{}, num(1)}, {num(7), num(1)}, {api.Value{}, num(3)}, {num(1), text("z")}, {num(1), truth(0)}}
	least, most := num(math.MinInt64), num(math.MaxInt64)
	for _, x := range []struct {
		op   uint8
		l    []pair
		want api.Value
		code api.Errno
	}{
		{api.OpCountAll, three, num(3), api.OK},
		{api.OpCount, three, num(2), api.OK},
		{api.OpSum, three, num(7), api.OK},
		{api.OpAvg, three, num(3), api.OK},
		{api.OpMin, three, num(3), api.OK},
		{api.OpMax, three, num(4), api.OK},
		{api.OpMin, mixed, truth(1), api.OK},
		{api.OpMax, mixed, text("a"), api.OK},
		{api.OpSum, mixed, num(7), api.OK},
		{api.OpCount, mixed, num(4), api.OK},
		{api.OpFirst, pairs, num(6), api.OK},
		{api.OpLast, pairs, num(5), api.OK},
		{api.OpFirst, nulls, api.Value{}, api.OK},
		{api.OpLast, nulls, api.Value{}, api.OK},
		{api.OpFirst, nulls[3:], api.Value{}, api.OK},
		{api.OpLast, nulls[1:2], num(7), api.OK},
		{api.OpSum, firsts(most, num(1), num(-1)), most, api.OK},
		{api.OpSum, firsts(most, num(1)), api.Value{}, api.ErrOver},
		{api.OpSum, firsts(least, num(-1)), api.Value{}, api.ErrOver},
		{api.OpSum, firsts(least, num(-1), num(1)), least, api.OK},
		{api.OpSum, firsts(num(1), num(-1)), num(0), api.OK},
		{api.OpAvg, firsts(most, most, most), most, api.OK},
		{api.OpAvg, firsts(least, least, least), least, api.OK},
		{api.OpAvg, firsts(least, most), num(-1), api.OK},
		{api.OpAvg, firsts(num(-3), num(-4)), num(-4), api.OK},
		{api.OpAvg, firsts(num(3), num(4)), num(3), api.OK},
		{api.OpAvg, firsts(num(-3), num(-5)), num(-4), api.OK},
		{api.OpCountAll, nil, num(0), api.OK},
		{api.OpCount, nil, num(0), api.OK},
		{api.OpSum, nil, api.Value{}, api.OK},
		{api.OpAvg, firsts(api.Value{}, text("a")), api.Value{}, api.OK},
		{api.OpMin, firsts(api.Value{}), api.Value{}, api.OK},
		{api.OpMax, nil, api.Value{}, api.OK},
		{api.OpFirst, nil, api.Value{}, api.OK},
		{api.OpLast, nil, api.Value{}, api.OK},
	} {
		if v, code := fed(t, x.op, x.l...).Answer(); v != x.want || code != x.code {
			t.Errorf("%d of %v: %v, %d", x.op, x.l, v, code)
		}
	}
}

func TestNil(t *testing.T) {
	var s *State
	s.Feed(num(1), num(1))
	if v, code := s.Answer(); code != api.ErrNil || v != (api.Value{}) {
		t.Error("Answer")
	}
	o := fed(t, api.OpSum)
	if s.Add(o) != api.ErrNil || o.Add(nil) != api.ErrNil || s.Clone() != nil {
		t.Error("Add, Clone")
	}
	if o.Add(fed(t, api.OpAvg)) != api.ErrArg {
		t.Error("unlike aggregates")
	}
}

func TestCloneAndAddGoOnApart(t *testing.T) {
	for _, op := range ops() {
		l := []pair{{num(5), num(2)}, {num(7), num(1)}}
		s := fed(t, op, l...)
		was, _ := s.Answer()
		c := s.Clone()
		c.Feed(num(100), num(100))
		c.Feed(num(-100), num(-100))
		if v, _ := s.Answer(); v != was {
			t.Errorf("%d: the clone is not apart", op)
		}
		o := fed(t, op)
		if o.Add(s) != api.OK || s.Add(s) != api.OK {
			t.Errorf("%d: Add", op)
		}
		if v, _ := o.Answer(); v != was {
			t.Errorf("%d: what was added is not apart", op)
		}
		twice := fed(t, op, append(l, l...)...)
		a, _ := s.Answer()
		if b, _ := twice.Answer(); a != b {
			t.Errorf("%d added to itself: %v, not %v", op, a, b)
		}
	}
}

// slow is what an aggregate answers, as the chapter tells it.
func slow(op uint8, l []pair) (api.Value, api.Errno) {
	sum, ints, some := new(big.Int), int64(0), int64(0)
	var best, by api.Value
	has := false
	for _, p := range l {
		if p.a.Kind == api.Int {
			sum.Add(sum, big.NewInt(p.a.Int))
			ints++
		}
		if p.a.Kind != api.Null {
			some++
		}
		c, d := value.Compare(p.a, best), value.Compare(p.b, by)
		take := false
		switch op {
		case api.OpMin:
			take = p.a.Kind != api.Null && (!has || c < 0)
		case api.OpMax:
			take = p.a.Kind != api.Null && (!has || c > 0)
		case api.OpFirst:
			take = p.b.Kind == api.Int && (!has || d < 0 || d == 0 && c < 0)
		case api.OpLast:
			take = p.b.Kind == api.Int && (!has || d > 0 || d == 0 && c > 0)
		}
		if take {
			best, by, has = p.a, p.b, true
		}
	}
	switch op {
	case api.OpCountAll:
		return num(int64(len(l))), api.OK
	case api.OpCount:
		return num(some), api.OK
	case api.OpSum, api.OpAvg:
		if ints == 0 {
			return api.Value{}, api.OK
		}
		if op == api.OpAvg {
			sum.Div(sum, big.NewInt(ints)) // rounds down, of a divisor above 0
		}
		if !sum.IsInt64() {
			return api.Value{}, api.ErrOver
		}
		return num(sum.Int64()), api.OK
	}
	return best, api.OK
}

func TestOrderPlaysNoPart(t *testing.T) {
	r := rand.New(rand.NewSource(1))
	some := []api.Value{{}, truth(0), truth(1), num(math.MinInt64), num(math.MinInt64 + 1), num(-7), num(-1), num(0), num(2), num(3), num(math.MaxInt64), text(""), text("b")}
	for range 3000 {
		op := ops()[r.Intn(8)]
		l := make([]pair, r.Intn(9))
		for i := range l {
			l[i] = pair{some[r.Intn(len(some))], some[r.Intn(len(some))]}
		}
		want, code := slow(op, l)
		r.Shuffle(len(l), func(i, k int) { l[i], l[k] = l[k], l[i] })
		parts := []*State{fed(t, op), fed(t, op), fed(t, op)}
		for _, p := range l {
			parts[r.Intn(3)].Feed(p.a, p.b)
		}
		r.Shuffle(3, func(i, k int) { parts[i], parts[k] = parts[k], parts[i] })
		parts[1].Add(parts[2])
		parts[0].Add(parts[1])
		if v, c := parts[0].Answer(); v != want || c != code {
			t.Fatalf("%d of %v: %v, %d, not %v, %d", op, l, v, c, want, code)
		}
	}
}

func TestSumsBeyondStayBeyond(t *testing.T) {
	s, a := fed(t, api.OpSum, pair{a: num(1)}), fed(t, api.OpAvg, pair{a: num(-5)})
	for i := range 60 {
		s.Add(s)
		a.Add(a)
		if v, code := s.Answer(); code != api.OK || v != num(1<<uint(i+1)) {
			t.Fatalf("%v, %d", v, code)
		}
		if v, code := a.Answer(); code != api.OK || v != num(-5) {
			t.Fatalf("%v, %d", v, code)
		}
	}
	for range 200 {
		s.Add(s)
	}
	if v, code := s.Answer(); code != api.ErrOver || v != (api.Value{}) {
		t.Errorf("%v, %d", v, code)
	}
}
