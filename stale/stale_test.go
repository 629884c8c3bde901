package stale

import (
	"fmt"
	"math"
	"math/rand"
	"reflect"
	"testing"

	"tideline/api"
	"tideline/base"
	"tideline/disk"
	"tideline/key"
	"tideline/row"
	"tideline/spans"
)

func fresh(t *testing.T) (*disk.Disk, *base.Base) {
	t.Helper()
	d, _ := disk.New(200)
	b, code := base.Open(d)
	is(t, "Open", code, api.OK)
	return d, b
}

func is(t *testing.T, what string, got, want any) {
	t.Helper()
	if fmt.Sprint(got) != fmt.Sprint(want) {
		t.Fatalf("%s: %v, not %v", what, got, want)
	}
}

func list(t ...int64) []api.Span {
	var l []api.Span
	for i := 0; i+1 < len(t); i += 2 {
		l = append(l, api.Span{From: t[i], To: t[i+1]})
	}
	return l
}

// look4 is all that is told of a table and a view.
func look4(t *testing.T, b *base.Base, table string, v View) (log, fresh []api.Span, threshold, mark int64) {
	t.Helper()
	log, c1 := Log(b, table)
	fresh, c2 := Fresh(b, table, v)
	threshold, c3 := Threshold(b, table)
	mark, c4 := Mark(b, v)
	is(t, "told", []any{c1, c2, c3, c4}, []any{api.OK, api.OK, api.OK, api.OK})
	return log, fresh, threshold, mark
}

func TestExamples(t *testing.T) {
	_, b := fresh(t)
	v := View{"v", 10}
	look := func(log, fresh []api.Span, threshold, mark int64) {
		t.Helper()
		l, f, th, m := look4(t, b, "t", v)
		is(t, "told", []any{l, f, th, m}, []any{log, fresh, threshold, mark})
	}
	first := int64(api.MinTime - 6) // the floor of MinTime by 10
	is(t, "Note", Note(b, "t", []int64{5}), api.OK)
	look(nil, nil, api.MinTime-api.MaxEvery, first)
	is(t, "Cover", Cover(b, "t", v, api.Span{From: 0, To: 20}), api.OK)
	look(nil, list(0, 20), 20, 20)
	is(t, "Note", Note(b, "t", []int64{5, 25}), api.OK)
	look(list(5, 6), list(10, 20), 20, 20)
	is(t, "Drain", Drain(b, "t", []View{v}), api.OK)
	look(nil, list(10, 20), 20, 20)
	is(t, "Cover", Cover(b, "t", v, api.Span{From: 0, To: 10}), api.OK)
	look(nil, list(0, 20), 20, 20)
	is(t, "Cover", Cover(b, "t", v, api.Span{From: 40, To: 50}), api.OK)
	look(nil, list(0, 20, 40, 50), 50, 50)
	is(t, "Clear", []any{Clear(b, "v"), Clear(b, "t")}, []any{api.OK, api.OK})
	look(nil, nil, api.MinTime-api.MaxEvery, first)
	l, _ := b.Range(nil, nil)
	is(t, "what is left", len(l), 0)
}

func TestErrors(t *testing.T) {
	_, b := fresh(t)
	v, no := View{"v", 10}, View{"v", 0}
	s := api.Span{From: 0, To: 10}
	l1, c1 := Log(nil, "t")
	n1, c2 := Threshold(nil, "t")
	n2, c3 := Mark(nil, no)
	l2, c4 := Fresh(nil, "t", no)
	is(t, "nil", []any{l1, c1, n1, c2, n2, c3, l2, c4, Note(nil, "t", []int64{math.MaxInt64}), Drain(nil, "t", []View{no}), Cover(nil, "t", no, s), Clear(nil, "t")},
		[]any{[]api.Span(nil), api.ErrNil, 0, api.ErrNil, 0, api.ErrNil, []api.Span(nil), api.ErrNil, api.ErrNil, api.ErrNil, api.ErrNil, api.ErrNil})
	for _, w := range []View{no, {"v", -1}, {"v", api.MaxEvery + 1}} {
		n, c1 := Mark(b, w)
		l, c2 := Fresh(b, "t", w)
		is(t, "no width", []any{n, c1, l, c2, Drain(b, "t", []View{v, w}), Cover(b, "t", w, s)}, []any{0, api.ErrArg, []api.Span(nil), api.ErrArg, api.ErrArg, api.ErrArg})
	}
	for _, x := range []struct {
		s    api.Span
		code api.Errno
	}{
		{api.Span{From: 1, To: 10}, api.ErrArg}, {api.Span{From: 0, To: 11}, api.ErrArg}, {api.Span{From: 0, To: 0}, api.ErrArg}, {api.Span{From: 20, To: 10}, api.ErrArg}, {api.Span{From: math.MinInt64, To: 5}, api.ErrArg},
		{api.Span{From: -1 << 63 / 10 * 10, To: 10}, api.ErrRange}, {api.Span{From: 0, To: math.MaxInt64 / 10 * 10}, api.ErrRange}, {api.Span{From: math.MaxInt64/10*10 - 10, To: math.MaxInt64 / 10 * 10}, api.ErrRange},
		{api.Span{From: -10, To: 0}, api.OK},
	} {
		if code := Cover(b, "t", v, x.s); code != x.code {
			t.Errorf("Cover(%v): %d", x.s, code)
		}
	}
	for _, n := range []int64{api.MinTime - 1, api.MaxTime + 1, math.MinInt64, math.MaxInt64} {
		is(t, "Note", Note(b, "t", []int64{-5, n}), api.ErrRange)
	}
	log, _, _, _ := look4(t, b, "t", v)
	is(t, "Log", len(log), 0)
	is(t, "Note", Note(b, "t", []int64{api.MinTime, api.MaxTime}), api.OK)
	log, _, _, _ = look4(t, b, "t", v)
	is(t, "Log", log, list(api.MinTime, api.MinTime+1))
	is(t, "Drain", Drain(b, "t", []View{v, {"w", api.MaxEvery}}), api.OK)
}

func bytesOf(n int64) []byte {
	b, _ := row.Put([]uint8{api.Int}, []api.Value{{Kind: api.Int, Int: n}})
	return b
}

func bytes(kind int64, name string, l ...int64) []byte {
	v := []api.Value{{Kind: api.Int, Int: kind}, {Kind: api.Text, Text: name}}
	for _, n := range l {
		v = append(v, api.Value{Kind: api.Int, Int: n})
	}
	b, _ := key.Append(nil, v...)
	return b
}

// What lies in the base is what the chapter says.
func TestInTheBase(t *testing.T) {
	_, b := fresh(t)
	v := View{"v", 10}
	Cover(b, "t", v, api.Span{From: 0, To: 40})
	Cover(b, "t", v, api.Span{From: 60, To: 70})
	Note(b, "t", []int64{7, 5, 6, 33, 5})
	look := func(want map[string]string) {
		t.Helper()
		l, _ := b.Range(nil, nil)
		got := map[string]string{}
		for _, p := range l {
			got[string(p.Key)] = string(p.Value)
		}
		if !reflect.DeepEqual(got, want) {
			t.Fatalf("%q, not %q", got, want)
		}
	}
	s := func(b []byte) string { return string(b) }
	first := int64(api.MinTime - 6)
	look(map[string]string{
		s(bytes(6, "t", 5)): s(bytesOf(8)), s(bytes(6, "t", 33)): s(bytesOf(34)),
		s(bytes(7, "v", first)): s(bytesOf(0)), s(bytes(7, "v", 40)): s(bytesOf(60)),
		s(bytes(11, "t")): s(bytesOf(70)), s(bytes(12, "v")): s(bytesOf(70)),
	})
	Drain(b, "t", []View{v, {"w", 50}})
	look(map[string]string{
		s(bytes(7, "v", first)): s(bytesOf(10)), s(bytes(7, "v", 30)): s(bytesOf(60)), s(bytes(7, "w", 0)): s(bytesOf(50)),
		s(bytes(11, "t")): s(bytesOf(70)), s(bytes(12, "v")): s(bytesOf(70)),
	})
}

func TestBroken(t *testing.T) {
	v := View{"v", 10}
	for i, x := range []struct{ key, value []byte }{
		{bytes(6, "t", 5), []byte{1}}, {bytes(6, "t", 5), []byte{9, 9, 9}}, {bytes(6, "t", 5), bytesOf(5)}, {bytes(6, "t", 5), bytesOf(math.MaxInt64)}, {bytes(6, "t", 5, 6), bytesOf(7)}, {bytes(6, "t"), bytesOf(7)},
		{append(bytes(6, "t", 5), 9), bytesOf(7)}, {bytes(7, "v", 10), bytesOf(3)}, {bytes(7, "v", 10), nil}, {bytes(12, "v"), []byte{1}}, {bytes(12, "v"), nil},
	} {
		_, b := fresh(t)
		b.Put(x.key, x.value)
		if l, code := Fresh(b, "t", v); code != api.ErrBroken || l != nil {
			t.Errorf("%d: %v, %d", i, l, code)
		}
		is(t, "Clear", []any{Clear(b, "t"), Clear(b, "v")}, []any{api.OK, api.OK})
		if l, code := Fresh(b, "t", v); code != api.OK || l != nil {
			t.Errorf("%d: %v, %d", i, l, code)
		}
	}
	_, b := fresh(t)
	b.Put(bytes(6, "t", 5), bytesOf(9))
	b.Put(bytes(6, "t", 9), bytesOf(12))
	_, code := Log(b, "t")
	is(t, "spans that touch", code, api.ErrBroken)
	b.Put(bytes(11, "t"), []byte{7})
	n, code := Threshold(b, "t")
	is(t, "Threshold", []any{n, code, Note(b, "t", []int64{1})}, []any{0, api.ErrBroken, api.ErrBroken})
}

func TestNoPower(t *testing.T) {
	d, b := fresh(t)
	d.Kill()
	_, code := Log(b, "t")
	is(t, "dead", []any{code, Note(b, "t", []int64{1}), Drain(b, "t", nil), Cover(b, "t", View{"v", 10}, api.Span{From: 0, To: 10}), Clear(b, "t")}, []any{api.ErrDead, api.ErrDead, api.ErrDead, api.ErrDead, api.ErrDead})
}

// What is fresh of a view is what was covered, less the buckets that a change since met.
func TestFresh(t *testing.T) {
	r := rand.New(rand.NewSource(1))
	views := []View{{"u", 5}, {"v", 10}, {"w", 7}}
	for range 60 {
		_, b := fresh(t)
		want := map[string][]api.Span{}
		marks := map[string]int64{}
		for range 60 {
			switch r.Intn(5) {
			case 0:
				is(t, "Drain", Drain(b, "t", views), api.OK)
			case 1:
				v := views[r.Intn(3)]
				from := (r.Int63n(30) - 15) * v.Width
				s := api.Span{From: from, To: from + (1+r.Int63n(4))*v.Width}
				// The log tells of changes ahead of this: a refresh drains it first.
				is(t, "Drain", Drain(b, "t", views), api.OK)
				is(t, "Cover", Cover(b, "t", v, s), api.OK)
				want[v.Name] = spans.Or(want[v.Name], []api.Span{s})
				if m, ok := marks[v.Name]; !ok || s.To > m {
					marks[v.Name] = s.To
				}
			default:
				var times []int64
				for range r.Intn(3) {
					times = append(times, r.Int63n(300)-150)
				}
				is(t, "Note", Note(b, "t", times), api.OK)
				for _, v := range views {
					for _, n := range times {
						met, _ := spans.Out([]api.Span{{From: n, To: n + 1}}, v.Width)
						want[v.Name] = spans.Minus(want[v.Name], met)
					}
				}
			}
			most := int64(api.MinTime - api.MaxEvery)
			for _, v := range views {
				_, f, threshold, mark := look4(t, b, "t", v)
				is(t, "Fresh", f, spans.Of(want[v.Name]...))
				if m, ok := marks[v.Name]; ok {
					is(t, "Mark", mark, m)
					most = max(most, m)
				}
				if v.Name == "w" {
					is(t, "Threshold", threshold, most)
				}
			}
		}
	}
}

func TestEnds(t *testing.T) {
	v := View{"v", 1}
	_, b := fresh(t)
	const low, high = api.MinTime - api.MaxEvery, api.MaxTime + api.MaxEvery
	for _, x := range []struct {
		s    api.Span
		code api.Errno
	}{
		{api.Span{From: low, To: 5}, api.OK}, {api.Span{From: low - 1, To: 5}, api.ErrRange}, {api.Span{From: 5, To: high}, api.OK}, {api.Span{From: 5, To: high + 1}, api.ErrRange},
	} {
		is(t, "Cover", Cover(b, "t", v, x.s), x.code)
	}
	_, b = fresh(t)
	Cover(b, "t", View{"v", 10}, api.Span{From: 0, To: 20})
	is(t, "Note", Note(b, "t", []int64{20, 19, 21}), api.OK)
	log, _ := Log(b, "t")
	is(t, "what is below the threshold", log, list(19, 20))
}
