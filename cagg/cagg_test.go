package cagg

import (
	"fmt"
	"math"
	"math/rand"
	"strings"
	"testing"

	"tideline/api"
	"tideline/base"
	"tideline/catalog"
	"tideline/chunk"
	"tideline/disk"
	"tideline/key"
	"tideline/parse"
	"tideline/query"
	"tideline/row"
	"tideline/span"
	"tideline/spans"
	"tideline/stale"
	"tideline/value"
)

func num(i int64) api.Value   { return api.Value{Kind: api.Int, Int: i} }
func text(s string) api.Value { return api.Value{Kind: api.Text, Text: s} }

func is(t *testing.T, what string, got, want any) {
	t.Helper()
	if fmt.Sprint(got) != fmt.Sprint(want) {
		t.Fatalf("%s: %v, not %v", what, got, want)
	}
}

func lines(rows [][]api.Value) string {
	var l []string
	for _, r := range rows {
		l = append(l, value.Line(r))
	}
	return strings.Join(l, "; ")
}

// database is a base and its catalog, for tests.
type database struct {
	t *testing.T
	d *disk.Disk
	b *base.Base
	c *catalog.Catalog
}

func fresh(t *testing.T, defs ...string) *database {
	t.Helper()
	d, _ := disk.New(400)
	b, code := base.Open(d)
	is(t, "Open", code, api.OK)
	x := &database{t, d, b, catalog.New()}
	for _, sql := range defs {
		s, _, code := parse.Parse(sql)
		is(t, sql, []any{code, x.c.Add(s)}, []any{api.OK, api.OK})
	}
	return x
}

func (x *database) put(l ...api.Value) {
	x.t.Helper()
	s, _ := x.c.Get("t")
	is(x.t, "Put", []any{chunk.Put(x.b, s, l), stale.Note(x.b, "t", []int64{l[0].Int})}, []any{api.OK, api.OK})
}

func (x *database) rows(name string, within ...api.Span) string {
	x.t.Helper()
	if within == nil {
		within = All()
	}
	l, code := Rows(x.b, x.c, name, within)
	is(x.t, "Rows", code, api.OK)
	return lines(l)
}

func (x *database) stored(name string) string {
	x.t.Helper()
	l, code := Stored(x.b, x.c, name)
	is(x.t, "Stored", code, api.OK)
	return lines(l)
}

func (x *database) refresh(name string, from, to api.Value) int64 {
	x.t.Helper()
	n, code := Refresh(x.b, x.c, name, from, to)
	is(x.t, "Refresh", code, api.OK)
	return n
}

const (
	tableT = "CREATE TABLE t (time INT, v INT) TIME time EVERY 10"
	viewH  = "CREATE VIEW h AS SELECT bucket(10, time) AS time, sum(v) AS s FROM t GROUP BY bucket(10, time)"
	viewK  = "CREATE VIEW k AS SELECT bucket(20, time) AS time, max(s) AS m FROM h GROUP BY bucket(20, time)"
)

func TestExamples(t *testing.T) {
	null := api.Value{}
	x := fresh(t, tableT, viewH)
	look := func(rows, stored string) {
		t.Helper()
		is(t, "Rows", x.rows("h"), rows)
		is(t, "Stored", x.stored("h"), stored)
	}
	x.put(num(3), num(1))
	x.put(num(12), num(2))
	look("0, 1; 10, 2", "")
	is(t, "Refresh", x.refresh("h", null, num(10)), 1)
	look("0, 1; 10, 2", "0, 1")
	x.put(num(4), num(5))
	look("0, 6; 10, 2", "0, 1")
	is(t, "Refresh", x.refresh("h", null, null), 3)
	is(t, "Refresh", x.refresh("h", null, null), 0)
	look("0, 6; 10, 2", "0, 6; 10, 2")
	is(t, "of the table", x.rows("t")+" "+x.stored("t"), "3, 1; 4, 5; 12, 2 3, 1; 4, 5; 12, 2")
	is(t, "within", x.rows("h", api.Span{From: 1, To: 11}), "10, 2")
	is(t, "within", x.rows("h", api.Span{From: 0, To: 1}, api.Span{From: 30, To: 20}), "0, 6")
	is(t, "within", x.rows("h", api.Span{}), "")
	is(t, "within", x.rows("t", api.Span{From: math.MinInt64, To: 4}), "3, 1")
	is(t, "Clear", Clear(x.b, "h"), api.OK)
	look("", "")
}

func TestErrors(t *testing.T) {
	x := fresh(t, tableT, viewH, "CREATE JOB j COMPRESS t AFTER 1 EVERY 1")
	null := api.Value{}
	far := []api.Span{{From: 0, To: math.MaxInt64}}
	for i, c := range []struct {
		b    *base.Base
		c    *catalog.Catalog
		name string
		code api.Errno
	}{{nil, x.c, "x", api.ErrNil}, {x.b, nil, "x", api.ErrNil}, {x.b, x.c, "x", api.ErrName}, {x.b, x.c, "j", api.ErrName}, {x.b, x.c, "", api.ErrName}} {
		l1, c1 := Rows(c.b, c.c, c.name, far)
		l2, c2 := Stored(c.b, c.c, c.name)
		n, c3 := Refresh(c.b, c.c, c.name, text("a"), null)
		is(t, fmt.Sprint(i), []any{l1, c1, l2, c2, n, c3}, []any{[][]api.Value(nil), c.code, [][]api.Value(nil), c.code, 0, c.code})
	}
	_, code := Rows(x.b, x.c, "h", far)
	_, code2 := Rows(x.b, x.c, "t", far)
	_, code3 := Rows(x.b, x.c, "h", []api.Span{{From: math.MaxInt64, To: 0}})
	is(t, "Rows", []any{code, code2, code3}, []any{api.ErrRange, api.OK, api.OK})
	for _, c := range []struct {
		name     string
		from, to api.Value
		code     api.Errno
	}{
		{"t", null, null, api.ErrName}, {"h", text("a"), null, api.ErrArg}, {"h", num(math.MaxInt64), text("a"), api.ErrArg}, {"h", null, api.Value{Int: 1}, api.ErrArg}, {"h", api.Value{Kind: api.Int, Text: "a"}, null, api.ErrArg}, {"h", api.Value{Kind: api.Bool}, null, api.ErrArg},
		{"h", num(api.MinTime - 1), null, api.ErrRange}, {"h", null, num(api.MaxTime + 1), api.ErrRange}, {"h", num(api.MinTime), num(api.MaxTime), api.OK},
	} {
		n, code := Refresh(x.b, x.c, c.name, c.from, c.to)
		is(t, "Refresh", []any{n, code}, []any{0, c.code})
	}
	is(t, "nil", []any{Clear(nil, "h"), Views(nil, "t")}, []any{api.ErrNil, []stale.View(nil)})
	is(t, "Views", []any{Views(x.c, "t"), Views(x.c, "h"), All()}, "[[{h 10}] [] [{-4611687117939015680 4611687117939015679}]]")
	x.put(num(1), num(math.MaxInt64))
	x.put(num(2), num(1))
	_, code = Rows(x.b, x.c, "h", All())
	_, code2 = Refresh(x.b, x.c, "h", null, null)
	is(t, "a query's", []any{code, code2}, []any{api.ErrOver, api.ErrOver})
	is(t, "elsewhere", x.rows("h", api.Span{From: 1, To: 99}), "")
	k, _ := key.Append(nil, num(9), text("h"), num(0), num(0))
	x.b.Put(k, []byte{9})
	_, code = Stored(x.b, x.c, "h")
	is(t, "Broken", code, api.ErrBroken)
	x.d.Kill()
	_, code = Stored(x.b, x.c, "h")
	_, code2 = Rows(x.b, x.c, "t", All())
	is(t, "no power", []any{code, code2, Clear(x.b, "h")}, []any{api.ErrDead, api.ErrDead, api.ErrDead})
}

func TestInTheBase(t *testing.T) {
	x := fresh(t, "CREATE TABLE t (time INT, d TEXT) TIME time EVERY 10", "CREATE VIEW h AS SELECT bucket(10, time) AS time, d, count(*) AS n FROM t GROUP BY bucket(10, time), d")
	for _, d := range []string{"b", "a", "b"} {
		x.put(num(-3), text(d))
	}
	x.put(num(3), api.Value{})
	is(t, "Refresh", x.refresh("h", api.Value{}, api.Value{}), 3)
	from, _ := key.Append(nil, num(9))
	l, _ := x.b.Range(from, key.After(from))
	var got []string
	for _, p := range l {
		k, _ := key.Parse(p.Key)
		r, _ := row.Get([]uint8{api.Int, api.Text, api.Int}, p.Value)
		got = append(got, value.Line(k)+": "+value.Line(r))
	}
	is(t, "stored", strings.Join(got, "; "), "9, 'h', -10, 0: -10, 'a', 1; 9, 'h', -10, 1: -10, 'b', 2; 9, 'h', 0, 0: 0, NULL, 1")
}

func TestWindows(t *testing.T) {
	x := fresh(t, tableT, viewH)
	null := api.Value{}
	is(t, "no rows", x.refresh("h", null, num(1000)), 0)
	m, _ := stale.Mark(x.b, stale.View{Name: "h", Width: 10})
	is(t, "Mark", m, api.MinTime-6)
	for i := range int64(6) {
		x.put(num(10*i+5), num(i))
	}
	is(t, "whole buckets", x.refresh("h", num(11), num(39)), 1)
	is(t, "Stored", x.stored("h"), "20, 2")
	is(t, "none", x.refresh("h", num(41), num(50)), 0)
	is(t, "none", x.refresh("h", num(50), num(10)), 0)
	is(t, "below the limit", x.refresh("h", num(40), num(1000)), 2)
	is(t, "Stored", x.stored("h"), "20, 2; 40, 4; 50, 5")
	m, _ = stale.Mark(x.b, stale.View{Name: "h", Width: 10})
	is(t, "Mark", m, 60)
	is(t, "Refresh", x.refresh("h", null, null), 3)
	// What is stored goes where rows are gone.
	s, _ := x.c.Get("t")
	chunk.Change(x.b, s, api.Span{From: 40, To: 60}, nil, func(l []api.Value) ([]api.Value, bool) { return nil, true })
	stale.Note(x.b, "t", []int64{45, 55})
	is(t, "Refresh", x.refresh("h", null, null), 2)
	is(t, "Stored", x.stored("h"), "0, 0; 10, 1; 20, 2; 30, 3")
	is(t, "Refresh", x.refresh("h", null, null), 0)
}

// Rows in real time of each view are those of its query, run over the source's, whatever is refreshed, and what is stored is what was read when it was covered.
func TestRealTime(t *testing.T) {
	r := rand.New(rand.NewSource(1))
	views := []string{"h", "k", "w"}
	for range 25 {
		x := fresh(t, "CREATE TABLE t (time INT, d TEXT, v INT) TIME time EVERY 15",
			"CREATE VIEW h AS SELECT bucket(5, time) AS time, d, sum(v) AS s, count(*) AS n FROM t GROUP BY bucket(5, time), d",
			"CREATE VIEW k AS SELECT bucket(10, time) AS at, max(s) AS m, sum(n) AS n FROM h WHERE n > 0 GROUP BY bucket(10, time)",
			"CREATE VIEW w AS SELECT bucket(20, at) AS time, last(m, at) AS m, sum(n) AS n FROM k GROUP BY bucket(20, at)")
		tab, _ := x.c.Get("t")
		kept := map[string]map[int64]string{"h": {}, "k": {}, "w": {}}
		real := func(name string) [][]api.Value {
			rows, _ := chunk.Rows(x.b, tab, api.Span{From: -1000, To: 1000}, nil)
			source := "t"
			for _, n := range views {
				s, _ := x.c.Get(n)
				q, code := query.Run(s.Query, x.c.Columns(source), rows)
				is(t, "Run", code, api.OK)
				rows, source = q.Rows, n
				if n == name {
					break
				}
			}
			return rows
		}
		for range 60 {
			switch r.Intn(6) {
			case 0, 1:
				x.put(num(r.Int63n(80)-40), []api.Value{{}, text("a"), text("b")}[r.Intn(3)], num(r.Int63n(9)))
			case 2:
				from := r.Int63n(80) - 40
				gone, _, code := chunk.Change(x.b, tab, api.Span{From: from, To: from + 9}, nil, func(l []api.Value) ([]api.Value, bool) { return nil, r.Intn(2) == 0 })
				is(t, "Change", code, api.OK)
				for _, l := range gone {
					stale.Note(x.b, "t", []int64{l[0].Int})
				}
			case 3:
				is(t, "Pack", chunk.Pack(x.b, tab, r.Int63n(80)-40), api.OK)
			default:
				name := views[r.Intn(3)]
				ends := [2]api.Value{}
				for i := range ends {
					if r.Intn(3) > 0 {
						ends[i] = num(r.Int63n(100) - 50)
					}
				}
				v := stale.View{Name: name, Width: x.c.Width(name)}
				was, _ := stale.Fresh(x.b, "t", v)
				before := x.stored(name)
				all := map[string]string{}
				for _, n := range views {
					all[n] = lines(real(n))
				}
				count := x.refresh(name, ends[0], ends[1])
				now, _ := stale.Fresh(x.b, "t", v)
				new := spans.Minus(now, was)
				for _, s := range new {
					for at := range kept[name] {
						if span.Has(s, at) {
							delete(kept[name], at)
						}
					}
				}
				for _, l := range real(name) {
					if spans.Has(new, l[0].Int) {
						kept[name][l[0].Int] = strings.TrimPrefix(kept[name][l[0].Int]+"; "+value.Line(l), "; ")
					}
				}
				if (count == 0) != (before == x.stored(name)) {
					t.Fatalf("%d rows came and went, of %s and %s", count, before, x.stored(name))
				}
				for _, n := range views {
					is(t, "a refresh changes no rows in real time", x.rows(n), all[n])
				}
				after := x.stored(name)
				is(t, "a second one", []any{x.refresh(name, ends[0], ends[1]), x.stored(name)}, []any{0, after})
			}
			for _, name := range views {
				is(t, "Rows of "+name, x.rows(name), lines(real(name)))
				l, _ := Stored(x.b, x.c, name)
				got := map[int64]string{}
				for _, row := range l {
					got[row[0].Int] = strings.TrimPrefix(got[row[0].Int]+"; "+value.Line(row), "; ")
				}
				is(t, "Stored of "+name, got, kept[name])
				from := r.Int63n(80) - 40
				s := api.Span{From: from, To: from + r.Int63n(30)}
				var some [][]api.Value
				for _, row := range real(name) {
					if span.Has(s, row[0].Int) {
						some = append(some, row)
					}
				}
				is(t, "Rows within", x.rows(name, s), lines(some))
			}
		}
	}
}
