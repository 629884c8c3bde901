package query

import (
	"math"
	"math/rand"
	"reflect"
	"strings"
	"testing"

	"tideline/api"
	"tideline/parse"
	"tideline/value"
)

func num(i int64) api.Value   { return api.Value{Kind: api.Int, Int: i} }
func text(s string) api.Value { return api.Value{Kind: api.Text, Text: s} }

func read(t *testing.T, s string) api.Query {
	t.Helper()
	x, at, code := parse.Parse(s)
	if code != api.OK || x.Kind != api.StSelect {
		t.Fatalf("%s: %d, %d", s, at, code)
	}
	return x.Query
}

func columns() []api.Column {
	return []api.Column{{Name: "time", Type: api.Int}, {Name: "v", Type: api.Int}, {Name: "d", Type: api.Text}, {Name: "b", Type: api.Bool}}
}

func rows() [][]api.Value {
	yes, no, null := api.Value{Kind: api.Bool, Int: 1}, api.Value{Kind: api.Bool}, api.Value{}
	return [][]api.Value{{num(1), num(5), text("x"), yes}, {num(2), num(7), text("y"), no}, {num(6), num(1), text("x"), null}, {num(7), null, null, no}}
}

func told(r api.Result) string {
	var l []string
	for _, x := range r.Rows {
		l = append(l, value.Line(x))
	}
	return strings.Join(l, "; ")
}

func names(l []api.Column) string {
	var s []string
	for _, c := range l {
		s = append(s, c.Name+" "+[]string{"NULL", "BOOL", "INT", "TEXT"}[c.Type])
	}
	return strings.Join(s, ", ")
}

func TestRun(t *testing.T) {
	for _, x := range []struct{ sql, cols, rows string }{
		{"select * from t where time < 2", "time INT, v INT, d TEXT, b BOOL", "1, 5, 'x', TRUE"},
		{"select bucket(5, time), sum(v) from t group by bucket(5, time)", " INT,  INT", "0, 12; 5, 1"},
		{"select v from t where time > 1 order by v desc limit 1", "v INT", "7"},
		{"select v from t order by v", "v INT", "NULL; 1; 5; 7"},
		{"select v as w, time + 1 from t order by b, v desc", "w INT,  INT", "1, 7; 7, 3; NULL, 8; 5, 2"},
		{"select d from t order by b", "d TEXT", "'x'; NULL; 'y'; 'x'"},
		{"select d from t", "d TEXT", "NULL; 'x'; 'x'; 'y'"},
		{"select count(*) from t where false", " INT", "0"},
		{"select count(*) from t where null", " INT", "0"},
		{"select sum(v), min(d), max(b), avg(v), first(d, time), last(v, time), count(v) from t", " INT,  TEXT,  BOOL,  INT,  TEXT,  INT,  INT", "13, 'x', TRUE, 4, 'x', NULL, 3"},
		{"select sum(v) + 1 from t having count(*) > 2", " INT", "14"},
		{"select sum(v) + 1 from t having count(*) > 5", " INT", ""},
		{"select 5 from t having true", " INT", "5"},
		{"select null from t where false", " NULL", ""},
		{"select d, count(*) as n from t group by d", "d TEXT, n INT", "NULL, 1; 'x', 2; 'y', 1"},
		{"select d, count(*) as n from t where false group by d", "d TEXT, n INT", ""},
		{"select d from t group by d having sum(v) > 5 order by sum(v)", "d TEXT", "'x'; 'y'"},
		{"select d from t group by d order by max(time) desc, d limit 2", "d TEXT", "NULL; 'x'"},
		{"select d from t group by d limit 0", "d TEXT", ""},
		{"select v + 1, v + 1 + time from t group by v + 1, time order by time", " INT,  INT", "6, 7; 8, 10; 2, 8; NULL, NULL"},
		{"select b, d from t group by d, b", "b BOOL, d TEXT", "NULL, 'x'; FALSE, NULL; FALSE, 'y'; TRUE, 'x'"},
		{"select count(*) from t order by max(v)", " INT", "4"},
		{"select d is null, count(*) from t group by d, d is null", " BOOL,  INT", "FALSE, 1; FALSE, 2; TRUE, 1"},
		{"select min(null), first(null, null), sum(null) from t", " NULL,  NULL,  INT", "NULL, NULL, NULL"},
		{"select 1 + 1 from t limit 2", " INT", "2; 2"},
	} {
		q := read(t, x.sql)
		r, code := Run(q, columns(), rows())
		if code != api.OK || told(r) != x.rows || names(r.Cols) != x.cols || r.Count != int64(len(r.Rows)) {
			t.Errorf("%s: %s: %s (%d), %d", x.sql, names(r.Cols), told(r), r.Count, code)
		}
		if c, code := Check(q, columns()); code != api.OK || names(c) != x.cols {
			t.Errorf("%s: %s, %d", x.sql, names(c), code)
		}
	}
}

func TestErrors(t *testing.T) {
	for _, x := range []struct {
		sql  string
		code api.Errno
	}{
		{"select v from t where sum(v) = 1", api.ErrGroup}, {"select v from t group by time", api.ErrGroup}, {"select * from t group by time", api.ErrGroup}, {"select * from t having true", api.ErrGroup}, {"select * from t order by count(*)", api.ErrGroup},
		{"select count(*) from t group by count(*)", api.ErrGroup}, {"select sum(max(v)) from t", api.ErrGroup}, {"select sum(1 + max(v)) from t", api.ErrGroup}, {"select v, count(*) from t", api.ErrGroup}, {"select v + count(*) from t", api.ErrGroup},
		{"select d from t group by d having v = 1", api.ErrGroup}, {"select d from t group by d order by v", api.ErrGroup}, {"select v + 2 from t group by v + 1", api.ErrGroup}, {"select 1 + v from t group by v + 1", api.ErrGroup},
		{"select x from t", api.ErrName}, {"select v from t where x", api.ErrName}, {"select v from t order by x", api.ErrName}, {"select sum(x) from t", api.ErrName}, {"select d from t group by x", api.ErrName},
		{"select v from t where v", api.ErrType}, {"select count(*) from t having 1", api.ErrType}, {"select sum(d) from t", api.ErrType}, {"select avg(b) from t", api.ErrType}, {"select first(v, d) from t", api.ErrType}, {"select last(v, b) from t", api.ErrType}, {"select v + d from t", api.ErrType}, {"select sum(v) + min(d) from t", api.ErrType}, {"select d + count(*) from t group by d", api.ErrType},
		{"select bucket(0, v) from t", api.ErrForm}, {"select bucket(0, v) from t group by v", api.ErrForm},
		// Where, Group, Items, Having, Order
		{"select d + 1 from t where x order by y", api.ErrName}, {"select sum(d) from t where v group by x", api.ErrType}, {"select sum(d) from t group by x having v", api.ErrName}, {"select sum(d) from t having x", api.ErrType}, {"select v from t group by v having 1 order by x", api.ErrType},
		{"select * from t where x group by d", api.ErrName}, {"select * from t group by d having x", api.ErrGroup}, {"select d from t group by d having sum(d) = 1 order by time", api.ErrType},
		// arguments ahead of their own
		{"select sum(d + 1) + time from t", api.ErrType}, {"select time + sum(x) from t", api.ErrGroup}, {"select count(*) = (time = 1) from t", api.ErrGroup}, {"select x, count(*) from t", api.ErrName},
		// a column that there is not, ahead of one that is not of the group
		{"select x from t group by 1", api.ErrName}, {"select 1 + x from t group by 1", api.ErrName}, {"select 1 from t having x", api.ErrName}, {"select 1 from t group by 1 order by x", api.ErrName}, {"select -x from t group by d", api.ErrName}, {"select bucket(0, x) from t group by d", api.ErrName},
		{"select 1 from t group by d having d = x", api.ErrName}, {"select d from t group by d order by count(*) + x", api.ErrName}, {"select count(*) from t order by x", api.ErrName}, {"select x or first(first(y, count(*)), 1) as c from t", api.ErrName},
		{"select time + x from t group by 1", api.ErrGroup}, {"select x + time from t group by 1", api.ErrName}, {"select sum(x) + time from t", api.ErrName}, {"select sum(v) + x from t", api.ErrName}, {"select d + 1 + x from t group by d", api.ErrType}, {"select x + (d + 1) from t group by d", api.ErrName},
		{"select time, x from t group by 1", api.ErrGroup}, {"select x, time from t group by 1", api.ErrName}, {"select time from t having x", api.ErrGroup}, {"select 1 from t having time order by x", api.ErrGroup},
	} {
		q := read(t, x.sql)
		if c, code := Check(q, columns()); code != x.code || c != nil {
			t.Errorf("Check(%s): %v, %d", x.sql, c, code)
		}
		if r, code := Run(q, columns(), nil); code != x.code || !reflect.DeepEqual(r, api.Result{}) {
			t.Errorf("Run(%s): %v, %d", x.sql, r, code)
		}
	}
}

func TestWrongQueries(t *testing.T) {
	v := api.Expr{Op: api.OpCol, Name: "v"}
	yes := api.Expr{Op: api.OpLit, Value: api.Value{Kind: api.Bool, Int: 1}}
	bad := api.Expr{Op: api.OpCol, Name: "x"}
	deep := bad
	for range 32 {
		deep = api.Expr{Op: api.OpNot, Args: []api.Expr{deep}}
	}
	for i, x := range []struct {
		q    api.Query
		code api.Errno
	}{
		{api.Query{Limit: []int64{-1}, Where: []api.Expr{bad}}, api.ErrArg},
		{api.Query{Limit: []int64{1, 1}}, api.ErrArg},
		{api.Query{Where: []api.Expr{yes, yes}}, api.ErrArg},
		{api.Query{Having: []api.Expr{yes, yes}}, api.ErrArg},
		{api.Query{Where: []api.Expr{deep}}, api.ErrArg}, {api.Query{Group: []api.Expr{deep}}, api.ErrArg}, {api.Query{Having: []api.Expr{deep}}, api.ErrArg}, {api.Query{Items: []api.Item{{E: deep}}, Where: []api.Expr{bad}}, api.ErrArg}, {api.Query{Order: []api.Order{{E: deep}}}, api.ErrArg},
		{api.Query{Where: deep.Args}, api.ErrName},
		{api.Query{}, api.OK},
		{api.Query{Items: []api.Item{{}}}, api.ErrForm},
		{api.Query{Items: []api.Item{{E: api.Expr{Op: api.OpSum}}}}, api.ErrForm},
		{api.Query{Items: []api.Item{{E: api.Expr{Op: api.OpSum, Args: []api.Expr{v, v}}}}}, api.ErrForm},
		{api.Query{Items: []api.Item{{E: api.Expr{Op: api.OpCountAll, Args: []api.Expr{bad}}}}}, api.ErrName},
		{api.Query{Items: []api.Item{{E: api.Expr{Op: api.OpFirst, Args: []api.Expr{v}}}}}, api.ErrForm},
		{api.Query{Group: []api.Expr{v}, Items: []api.Item{{E: api.Expr{Op: 99, Args: []api.Expr{v}}}}}, api.ErrForm},
		{api.Query{Group: []api.Expr{v}, Items: []api.Item{{E: api.Expr{Op: api.OpAdd, Args: []api.Expr{v}}}}}, api.ErrForm},
		{api.Query{Group: []api.Expr{yes}, Items: []api.Item{{E: yes}}, Order: []api.Order{{E: api.Expr{Args: []api.Expr{{Op: api.OpCol}}}}}}, api.ErrName},
		{api.Query{Group: []api.Expr{v}, Items: []api.Item{{E: api.Expr{Op: api.OpCol, Name: "time", Args: []api.Expr{bad}}}}}, api.ErrName},
		{api.Query{Group: []api.Expr{v}, Items: []api.Item{{E: api.Expr{Op: api.OpCol, Name: "x", Args: []api.Expr{v}}}}}, api.ErrForm},
		{api.Query{Group: []api.Expr{v}, Items: []api.Item{{E: api.Expr{Op: api.OpCol, Name: "time", Args: []api.Expr{v}}}}}, api.ErrForm},
	} {
		if r, code := Run(x.q, columns(), nil); code != x.code || code != api.OK && !reflect.DeepEqual(r, api.Result{}) {
			t.Errorf("%d: %v, %d", i, r, code)
		}
	}
	for _, row := range [][]api.Value{nil, {num(1)}, {num(1), num(1), num(1), {}}, {num(1), {Kind: api.Int, Text: "a"}, {}, {}}, {{}, {}, {}, {Kind: api.Bool, Int: 2}}, {{}, {}, {}, {}, {}}} {
		if r, code := Run(read(t, "select 1 / 0 from t"), columns(), append(rows(), row)); code != api.ErrType || len(r.Rows) > 0 {
			t.Errorf("%v: %d", row, code)
		}
	}
}

func TestPhases(t *testing.T) {
	most := num(math.MaxInt64)
	cols := []api.Column{{Name: "a", Type: api.Int}, {Name: "b", Type: api.Int}}
	l := [][]api.Value{{num(0), num(1)}, {most, num(1)}, {most, num(2)}}
	for _, x := range []struct {
		sql  string
		code api.Errno
	}{
		{"select a from t where 1 / a = 1", api.ErrZero},
		{"select a from t where 1 / a = a + 1", api.ErrOver}, // of two rows' errors the least one
		{"select a from t where a = 0 or a = 1 / a", api.ErrZero},
		{"select a + 1 from t where a = 0", api.OK}, // only of the rows that are left
		{"select a + 1, 1 / a from t", api.ErrOver},
		{"select 1 / a from t order by a + 1", api.ErrOver},
		{"select 1 / a, a + 1 from t where a = 0", api.ErrZero},
		{"select 1 / a from t limit 0", api.ErrZero},
		{"select sum(a) from t", api.ErrOver},
		{"select sum(a) from t group by b", api.OK},
		{"select sum(a), 1 / min(a) from t", api.ErrOver}, // aggregates' answers come first
		{"select sum(1 / a), max(a + 1) from t where a = 0", api.ErrZero},
		{"select max(a + 1) from t group by 1 / a", api.ErrOver},
		{"select 1 / min(a) from t having min(a) <> 0", api.OK}, // only of the groups that are left
		{"select 1 / min(a) from t group by b having 1 / (b - 1) = 1", api.ErrZero},
		{"select max(a) + 1 from t having min(1 / a) = 1", api.ErrZero},
		{"select max(a) + 1 from t having 1 / min(a) = 1", api.ErrZero},
		{"select 1 / min(a) from t group by b order by max(a) + 1", api.ErrOver},
	} {
		if _, code := Run(read(t, x.sql), cols, l); code != x.code {
			t.Errorf("%s: %d", x.sql, code)
		}
	}
}

func TestGrouped(t *testing.T) {
	for sql, want := range map[string]bool{
		"select * from t": false, "select a from t where true order by a limit 1": false, "select a from t where sum(a) = 1": false,
		"select a from t group by a": true, "select a from t having true": true, "select 1 + count(*) from t": true, "select a from t order by -sum(a)": true,
	} {
		if Grouped(read(t, sql)) != want {
			t.Errorf("%s", sql)
		}
	}
}

func TestWhatFollows(t *testing.T) {
	r := rand.New(rand.NewSource(1))
	some := [][]api.Value{{num(0), num(1), num(2), {}}, {num(3), num(-3), {}, num(0)}, {text("a"), text("b"), {}, text("")}, {{Kind: api.Bool}, {Kind: api.Bool, Int: 1}, {}, {}}}
	queries := []string{"select * from t where v >= 0", "select d, time from t where b order by v desc, d", "select d, sum(v), count(*), first(v, time), last(d, v) from t where time < 2 group by d", "select min(v), max(d) from t where b is null having count(*) > 1", "select bucket(2, time), avg(v) from t where v <> 3 group by bucket(2, time), b order by b desc"}
	for range 1000 {
		q := read(t, queries[r.Intn(len(queries))])
		l := make([][]api.Value, r.Intn(12))
		for i := range l {
			for k := range 4 {
				l[i] = append(l[i], some[k][r.Intn(4)])
			}
		}
		all, code := Run(q, columns(), l)
		r.Shuffle(len(l), func(i, k int) { l[i], l[k] = l[k], l[i] })
		again, code2 := Run(q, columns(), l)
		if code != api.OK || code2 != api.OK || told(all) != told(again) {
			t.Fatalf("%d, %d: %s, and %s", code, code2, told(all), told(again))
		}
		left, _ := Run(api.Query{Where: q.Where}, columns(), l)
		rest := q
		rest.Where = nil
		if part, code := Run(rest, columns(), left.Rows); code != api.OK || told(part) != told(all) {
			t.Fatalf("of what is left: %d, %s, not %s", code, told(part), told(all))
		}
		n := int64(r.Intn(4))
		q.Limit = []int64{n}
		if part, _ := Run(q, columns(), l); told(part) != told(api.Result{Rows: all.Rows[:min(int(n), len(all.Rows))]}) {
			t.Fatalf("limit %d: %s of %s", n, told(part), told(all))
		}
	}
}

func TestNothingIsShared(t *testing.T) {
	l, cols := rows(), columns()
	r, _ := Run(read(t, "select * from t"), cols, l)
	for i := range r.Rows {
		r.Rows[i][0] = num(99)
		_ = append(r.Rows[i], num(98))
	}
	r.Cols[0].Name = "z"
	if !reflect.DeepEqual(l, rows()) || !reflect.DeepEqual(cols, columns()) {
		t.Error("what was handed in has changed")
	}
}
