package catalog

import (
	"fmt"
	"reflect"
	"strings"
	"testing"

	"tideline/api"
	"tideline/parse"
	"tideline/print"
)

func read(t *testing.T, sql string) api.Stmt {
	t.Helper()
	s, at, code := parse.Parse(sql)
	if code != api.OK {
		t.Fatalf("%s: %d, %d", sql, at, code)
	}
	return s
}

func add(t *testing.T, c *Catalog, sql string) api.Errno {
	t.Helper()
	return c.Add(read(t, sql))
}

func is(t *testing.T, what string, got, want any) {
	t.Helper()
	if fmt.Sprint(got) != fmt.Sprint(want) {
		t.Errorf("%s: %v, not %v", what, got, want)
	}
}

const (
	tableT = "CREATE TABLE t (time INT, d TEXT, v INT) TIME time EVERY 10 SPACE d INTO 2"
	viewH  = "CREATE VIEW h AS SELECT bucket(10, time) AS time, d, sum(v) AS s FROM t GROUP BY bucket(10, time), d"
	viewK  = "CREATE VIEW k AS SELECT bucket(20, time) AS at, max(s) AS m FROM h GROUP BY bucket(20, time)"
	jobJ   = "CREATE JOB j REFRESH h FROM 100 TO 0 EVERY 10"
)

func filled(t *testing.T) *Catalog {
	t.Helper()
	c := New()
	for _, sql := range []string{tableT, viewH, viewK, jobJ, "CREATE TABLE a (x BOOL, y INT) TIME y EVERY 1", "CREATE JOB b DROP a AFTER 5 EVERY 1"} {
		if code := add(t, c, sql); code != api.OK {
			t.Fatalf("%s: %d", sql, code)
		}
	}
	return c
}

// told is all that a catalog tells.
func told(c *Catalog) string {
	s := ""
	for what := range uint8(14) {
		s += fmt.Sprintln(c.Names(what))
	}
	for _, n := range append(c.Names(0), "nope") {
		d, ok := c.Get(n)
		s += fmt.Sprintln(n, c.Def(n), c.Columns(n), c.Time(n), c.Width(n), c.Chain(n), c.Views(n), d, ok)
	}
	return s
}

func TestLooking(t *testing.T) {
	c := filled(t)
	is(t, "Names", []any{c.Names(0), c.Names(api.StTable), c.Names(api.StView), c.Names(api.StJob), c.Names(9)}, "[[a b h j k t] [a t] [h k] [b j] []]")
	is(t, "Def", []any{c.Def("t"), c.Def("h"), c.Def("j"), c.Def("x")}, []any{tableT, viewH, jobJ, ""})
	is(t, "Columns", []any{c.Columns("t"), c.Columns("h"), c.Columns("k"), c.Columns("j"), c.Columns("x")}, "[[{time 2} {d 3} {v 2}] [{time 2} {d 3} {s 2}] [{at 2} {m 2}] [] []]")
	is(t, "Time", []any{c.Time("t"), c.Time("a"), c.Time("h"), c.Time("k"), c.Time("j"), c.Time("x")}, "[time y time at  ]")
	is(t, "Width", []any{c.Width("t"), c.Width("h"), c.Width("k"), c.Width("j"), c.Width("x")}, "[0 10 20 0 0]")
	is(t, "Chain", []any{c.Chain("t"), c.Chain("h"), c.Chain("k"), c.Chain("j"), c.Chain("x")}, "[[t] [h t] [k h t] [] []]")
	is(t, "Views", []any{c.Views("t"), c.Views("a"), c.Views("h"), c.Views("j"), c.Views("x")}, "[[h k] [] [] [] []]")
	s, ok := c.Get("h")
	is(t, "Get", []any{ok, reflect.DeepEqual(s, read(t, viewH))}, "[true true]")
	s, ok = c.Get("x")
	is(t, "Get", []any{ok, reflect.DeepEqual(s, api.Stmt{})}, "[false true]")
}

func TestAddErrors(t *testing.T) {
	name := func(n int) string { return strings.Repeat("n", n) }
	cols := func(n int) string {
		s := "time INT"
		for i := range n - 1 {
			s += fmt.Sprintf(", c%d INT", i)
		}
		return s
	}
	sums := func(n int) string {
		s := "bucket(10, time) AS time"
		for i := range n - 1 {
			s += fmt.Sprintf(", count(*) AS c%d", i)
		}
		return s
	}
	const group = " FROM t GROUP BY bucket(10, time)"
	for _, x := range []struct {
		sql  string
		code api.Errno
	}{
		{"SELECT * FROM t", api.ErrArg}, {"DROP TABLE t", api.ErrArg},
		{tableT, api.ErrTwice}, {"CREATE TABLE h (time INT) TIME time EVERY 10", api.ErrTwice}, {"CREATE TABLE h (time INT) TIME x EVERY 0", api.ErrTwice}, {"CREATE VIEW j AS SELECT * FROM x", api.ErrTwice},
		{"CREATE TABLE u (" + cols(8) + ") TIME time EVERY 10", api.OK}, {"CREATE TABLE u (" + cols(9) + ") TIME x EVERY 10", api.ErrLong},
		{"CREATE TABLE u (a INT, a INT) TIME x EVERY 10", api.ErrTwice},
		{"CREATE TABLE u (a TEXT, b INT) TIME x EVERY 0", api.ErrName}, {"CREATE TABLE u (a TEXT, b INT) TIME a EVERY 0 SPACE x INTO 99", api.ErrName},
		{"CREATE TABLE u (a TEXT, b INT) TIME a EVERY 0", api.ErrType}, {"CREATE TABLE u (a BOOL, b INT) TIME a EVERY 1", api.ErrType},
		{"CREATE TABLE u (a INT) TIME a EVERY 0", api.ErrArg}, {"CREATE TABLE u (a INT) TIME a EVERY 1099511627777", api.ErrArg}, {"CREATE TABLE u (a INT) TIME a EVERY 1099511627776", api.OK},
		{"CREATE TABLE u (a INT) TIME a EVERY 1 SPACE a INTO 0", api.ErrArg}, {"CREATE TABLE u (a INT) TIME a EVERY 1 SPACE a INTO 17", api.ErrArg}, {"CREATE TABLE u (a INT) TIME a EVERY 1 SPACE a INTO 16", api.OK},

		{"CREATE VIEW u AS SELECT bucket(10, time) AS time FROM x GROUP BY bucket(10, time)", api.ErrName}, {"CREATE VIEW u AS SELECT bucket(10, time) AS time FROM j GROUP BY bucket(10, time)", api.ErrName},
		{"CREATE VIEW u AS SELECT " + sums(8) + group, api.OK}, {"CREATE VIEW u AS SELECT " + sums(9) + group, api.ErrLong},
		{"CREATE VIEW u AS SELECT bucket(10, time) AS time, min('" + name(64) + "') AS m" + group, api.OK}, {"CREATE VIEW u AS SELECT bucket(10, time) AS time, count(d = '" + name(65) + "') AS m" + group, api.ErrLong},
		{"CREATE VIEW u AS SELECT bucket(10, time) AS time FROM t WHERE d = '" + name(65) + "' GROUP BY bucket(10, time)", api.OK},
		{"CREATE VIEW u AS SELECT bucket(10, time) AS time, sum(x) AS s" + group, api.ErrName}, {"CREATE VIEW u AS SELECT bucket(10, time) AS time, sum(d) AS s" + group, api.ErrType}, {"CREATE VIEW u AS SELECT *" + group, api.ErrGroup}, {"CREATE VIEW u AS SELECT bucket(0, time) AS time FROM t GROUP BY bucket(0, time)", api.ErrForm},
		{"CREATE VIEW u AS SELECT bucket(10, time) AS time, x" + group, api.ErrName}, {"CREATE VIEW u AS SELECT bucket(10, time) AS time, v" + group, api.ErrGroup}, {"CREATE VIEW u AS SELECT bucket(10, time) AS time, v, x" + group, api.ErrGroup},
		{"CREATE VIEW u AS SELECT * FROM t", api.ErrArg}, {"CREATE VIEW u AS SELECT bucket(10, time) AS time FROM t", api.ErrArg}, {"CREATE VIEW u AS SELECT count(*) AS n FROM t", api.ErrArg},
		{"CREATE VIEW u AS SELECT bucket(10, time) AS time FROM ONLY t GROUP BY bucket(10, time)", api.ErrArg}, {"CREATE VIEW u AS SELECT bucket(10, time) AS time" + group + " HAVING TRUE", api.ErrArg}, {"CREATE VIEW u AS SELECT bucket(10, time) AS time" + group + " ORDER BY 1", api.ErrArg}, {"CREATE VIEW u AS SELECT bucket(10, time) AS time" + group + " LIMIT 1", api.ErrArg},
		{"CREATE VIEW u AS SELECT bucket(10, time)" + group, api.ErrArg}, {"CREATE VIEW u AS SELECT bucket(10, v) AS time FROM t GROUP BY bucket(10, v)", api.ErrArg}, {"CREATE VIEW u AS SELECT bucket(10, time + 0) AS time FROM t GROUP BY bucket(10, time + 0)", api.ErrArg},
		{"CREATE VIEW u AS SELECT bucket(15, time) AS time FROM h GROUP BY bucket(15, time)", api.ErrArg}, {"CREATE VIEW u AS SELECT bucket(5, time) AS time FROM h GROUP BY bucket(5, time)", api.ErrArg}, {"CREATE VIEW u AS SELECT bucket(10, time) AS time FROM h GROUP BY bucket(10, time)", api.OK},
		{"CREATE VIEW u AS SELECT bucket(20, time) AS time FROM k GROUP BY bucket(20, time)", api.ErrName}, {"CREATE VIEW u AS SELECT bucket(40, at) AS time FROM k GROUP BY bucket(40, at)", api.OK},
		{"CREATE VIEW u AS SELECT bucket(10, time) AS time, d FROM t GROUP BY d, bucket(10, time)", api.ErrArg}, {"CREATE VIEW u AS SELECT bucket(10, time) AS time, d, v FROM t GROUP BY bucket(10, time), v, d", api.ErrArg}, {"CREATE VIEW u AS SELECT bucket(10, time) AS time, v + 1 AS w FROM t GROUP BY bucket(10, time), v + 1", api.ErrArg},
		{"CREATE VIEW u AS SELECT bucket(10, time) AS time FROM t GROUP BY bucket(10, time), d", api.ErrArg}, {"CREATE VIEW u AS SELECT bucket(10, time) AS time, count(*) AS n, d FROM t GROUP BY bucket(10, time), d", api.ErrArg},
		{"CREATE VIEW u AS SELECT bucket(10, time) AS time, d AS e, v FROM t GROUP BY bucket(10, time), d, v", api.OK},
		{"CREATE VIEW u AS SELECT bucket(10, time) AS time, sum(v)" + group, api.ErrArg}, {"CREATE VIEW u AS SELECT bucket(10, time) AS time, sum(v) + 1 AS s" + group, api.ErrArg}, {"CREATE VIEW u AS SELECT bucket(10, time) AS time, 1 AS s" + group, api.ErrArg}, {"CREATE VIEW u AS SELECT bucket(10, time) AS time, bucket(10, time) AS s" + group, api.ErrArg},
		{"CREATE VIEW u AS SELECT bucket(10, time) AS time, sum(v) AS time" + group, api.ErrTwice}, {"CREATE VIEW u AS SELECT bucket(10, time) AS d, d FROM t GROUP BY bucket(10, time), d", api.ErrTwice},
		{"CREATE VIEW u AS SELECT bucket(10, time) AS time, min(NULL) AS m" + group, api.ErrType}, {"CREATE VIEW u AS SELECT bucket(10, time) AS time, min(NULL) AS time" + group, api.ErrTwice},
		{"CREATE VIEW u AS SELECT bucket(10, time) AS time FROM t WHERE v > 3 GROUP BY bucket(10, time)", api.OK},

		{"CREATE JOB u REFRESH t FROM 5 TO 1 EVERY 1", api.ErrName}, {"CREATE JOB u REFRESH x FROM 1 TO 5 EVERY 1", api.ErrName}, {"CREATE JOB u COMPRESS h AFTER 5 EVERY 1", api.ErrName}, {"CREATE JOB u DROP j AFTER 5 EVERY 1", api.ErrName},
		{"CREATE JOB u REFRESH h FROM 5 TO 5 EVERY 1", api.ErrArg}, {"CREATE JOB u REFRESH h FROM 0 TO 5 EVERY 1", api.ErrArg}, {"CREATE JOB u REFRESH h FROM 1099511627777 TO 5 EVERY 1", api.ErrArg}, {"CREATE JOB u REFRESH h FROM 1099511627776 TO 5 EVERY 0", api.ErrArg}, {"CREATE JOB u REFRESH h FROM 1099511627776 TO 5 EVERY 1099511627776", api.OK},
		{"CREATE JOB u COMPRESS t AFTER 1099511627777 EVERY 1", api.ErrArg}, {"CREATE JOB u COMPRESS t AFTER 0 EVERY 1099511627777", api.ErrArg}, {"CREATE JOB u DROP t AFTER 0 EVERY 1", api.OK}, {"CREATE JOB u COMPRESS t AFTER 0 EVERY 1", api.OK},
		{"CREATE JOB u DROP t AFTER 9223372036854775807 EVERY 1", api.ErrArg},
		{"CREATE VIEW u AS SELECT bucket(10, time) AS time FROM t WHERE d = '" + name(890) + "' GROUP BY bucket(10, time)", api.OK}, {"CREATE VIEW t AS SELECT bucket(10, time) AS time FROM t WHERE d = '" + name(910) + "' GROUP BY bucket(10, time)", api.ErrLong},
	} {
		c := filled(t)
		was := told(c)
		if code := add(t, c, x.sql); code != x.code {
			t.Errorf("%s: %d, not %d", x.sql, code, x.code)
		}
		if x.code != api.OK && told(c) != was {
			t.Errorf("%s: what is refused changes something", x.sql)
		}
	}
	c := New()
	is(t, "Add", []any{c.Add(api.Stmt{}), c.Add(api.Stmt{Kind: api.StTable}), c.Add(api.Stmt{Kind: api.StView, Name: "v"})}, []any{api.ErrArg, api.ErrForm, api.ErrForm})
}

func TestLimits(t *testing.T) {
	c := New()
	for i := range api.MaxNames {
		is(t, "Add", add(t, c, fmt.Sprintf("CREATE TABLE t%d (time INT) TIME time EVERY 1", i)), api.OK)
	}
	is(t, "Add", add(t, c, "CREATE TABLE t1 (time INT) TIME time EVERY 1"), api.ErrLong)
	is(t, "Drop", c.Drop(api.StTable, "t5"), api.OK)
	is(t, "Add", add(t, c, "CREATE TABLE u (time INT) TIME time EVERY 1"), api.OK)
	c = New()
	add(t, c, "CREATE TABLE v0 (time INT) TIME time EVERY 1")
	for i := range 8 {
		want := api.OK
		if i == 7 { // the source's chain has 8 names
			want = api.ErrLong
		}
		is(t, "Add", add(t, c, fmt.Sprintf("CREATE VIEW v%d AS SELECT bucket(10, time) AS time FROM v%d GROUP BY bucket(10, time)", i+1, i)), want)
	}
	is(t, "Chain", len(c.Chain("v7")), api.MaxChain)
}

func TestDrop(t *testing.T) {
	c := filled(t)
	for _, x := range []struct {
		what uint8
		name string
		code api.Errno
	}{
		{api.StTable, "t", api.ErrState}, {api.StView, "h", api.ErrState}, {api.StTable, "a", api.ErrState},
		{api.StView, "t", api.ErrName}, {api.StTable, "h", api.ErrName}, {api.StJob, "x", api.ErrName}, {0, "t", api.ErrName}, {9, "t", api.ErrName},
		{api.StView, "k", api.OK}, {api.StView, "k", api.ErrName}, {api.StView, "h", api.ErrState}, {api.StJob, "j", api.OK}, {api.StView, "h", api.OK}, {api.StTable, "t", api.OK}, {api.StJob, "b", api.OK}, {api.StTable, "a", api.OK},
	} {
		was := told(c)
		if code := c.Drop(x.what, x.name); code != x.code {
			t.Errorf("Drop(%d, %s): %d", x.what, x.name, code)
		}
		if x.code != api.OK && told(c) != was {
			t.Errorf("Drop(%d, %s) changes something", x.what, x.name)
		}
	}
	is(t, "Names", c.Names(0), "[]")
}

func TestNil(t *testing.T) {
	var c *Catalog
	s, ok := c.Get("t")
	is(t, "nil", []any{c.Add(read(t, tableT)), c.Drop(api.StTable, "t"), reflect.DeepEqual(s, api.Stmt{}), ok, c.Def("t"), c.Names(0), c.Columns("t"), c.Time("t"), c.Width("t"), c.Chain("t"), c.Views("t"), c.Clone() == nil},
		[]any{api.ErrNil, api.ErrNil, true, false, "", nil2(), nil2(), "", 0, nil2(), nil2(), true})
}

func nil2() []string { return nil }

func TestWhatIsThereCanBeToldAndAddedAgain(t *testing.T) {
	c := filled(t)
	again := New()
	left := c.Names(0)
	for len(left) > 0 {
		var rest []string
		for _, n := range left {
			s, _ := c.Get(n)
			text, code := print.Print(s)
			is(t, "Print", []any{text, code}, []any{c.Def(n), api.OK})
			if add(t, again, text) != api.OK {
				rest = append(rest, n)
			}
		}
		if len(rest) == len(left) {
			t.Fatal("nothing can be added")
		}
		left = rest
	}
	is(t, "again", told(again), told(c))
}

func TestNothingIsShared(t *testing.T) {
	c := New()
	s := read(t, tableT)
	c.Add(s)
	s.Cols[0].Name = "z"
	v := read(t, viewH)
	c.Add(v)
	v.Query.Group[0].Args[0].Name = "z"
	was := told(c)
	g, _ := c.Get("h")
	g.Query.Items[0].E.Args[0].Name = "z"
	c.Columns("t")[0].Name = "z"
	c.Names(0)[0] = "z"
	c.Chain("h")[0] = "z"
	is(t, "told", told(c), was)
	d := c.Clone()
	is(t, "Clone", told(d), was)
	d.Drop(api.StView, "h")
	is(t, "told", told(c), was)
	was = told(d)
	add(t, c, viewK)
	is(t, "told", told(d), was)
}

func TestDefinitionsOfAsManyBytesAsMayBe(t *testing.T) {
	sql := func(n int) string {
		s := "CREATE VIEW u AS SELECT bucket(10, time) AS time FROM t WHERE d = '' GROUP BY bucket(10, time)"
		return strings.Replace(s, "''", "'"+strings.Repeat("n", n-len(s))+"'", 1)
	}
	c := filled(t)
	is(t, "Add", []any{add(t, c, sql(api.MaxDef+1)), add(t, c, sql(api.MaxDef))}, []any{api.ErrLong, api.OK})
	is(t, "Def", len(c.Def("u")), api.MaxDef)
	is(t, "Add", add(t, c, "CREATE TABLE w (a INT) TIME a EVERY 1 SPACE a INTO 1"), api.OK)
}
