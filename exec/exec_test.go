package exec

import (
	"fmt"
	"math/rand"
	"reflect"
	"strings"
	"testing"

	"tideline/api"
	"tideline/base"
	"tideline/cagg"
	"tideline/catalog"
	"tideline/chunk"
	"tideline/disk"
	"tideline/key"
	"tideline/parse"
	"tideline/query"
	"tideline/row"
	"tideline/stale"
	"tideline/value"
)

func num(i int64) api.Value { return api.Value{Kind: api.Int, Int: i} }

func is(t *testing.T, what string, got, want any) {
	t.Helper()
	if fmt.Sprint(got) != fmt.Sprint(want) {
		t.Fatalf("%s: %v, not %v", what, got, want)
	}
}

// database is a base and its catalog, for tests; each statement is a transaction.
type database struct {
	t *testing.T
	b *base.Base
	c *catalog.Catalog
}

func fresh(t *testing.T, defs ...string) *database {
	t.Helper()
	d, _ := disk.New(400)
	b, code := base.Open(d)
	is(t, "Open", code, api.OK)
	x := &database{t, b, catalog.New()}
	for _, sql := range defs {
		_, code := x.do(sql)
		is(t, sql, code, api.OK)
	}
	return x
}

func (x *database) do(sql string) (api.Result, api.Errno) {
	x.t.Helper()
	s, _, code := parse.Parse(sql)
	is(x.t, sql, code, api.OK)
	return x.stmt(s)
}

func (x *database) stmt(s api.Stmt) (api.Result, api.Errno) {
	c := x.c.Clone()
	r, code := Do(x.b, c, s, 77)
	if code != api.OK {
		x.b.Abort()
		if !reflect.DeepEqual(r, api.Result{}) {
			x.t.Fatalf("a result beside the error %d", code)
		}
		return r, code
	}
	x.c = c
	x.b.Commit()
	return r, code
}

// told is a result, or an error, as a text.
func told(r api.Result, code api.Errno) string {
	if code != api.OK {
		return fmt.Sprint(int(code))
	}
	l := []string{fmt.Sprint(r.Count)}
	for _, row := range r.Rows {
		l = append(l, value.Line(row))
	}
	return strings.Join(l, "; ")
}

func (x *database) script(steps ...string) {
	x.t.Helper()
	for i := 0; i < len(steps); i += 2 {
		if got := told(x.do(steps[i])); got != steps[i+1] {
			x.t.Fatalf("%s: %s, not %s", steps[i], got, steps[i+1])
		}
	}
}

// image is all that lies in a base.
func (x *database) image() string {
	l, code := x.b.Range(nil, nil)
	is(x.t, "Range", code, api.OK)
	s := ""
	for _, p := range l {
		k, _ := key.Parse(p.Key)
		s += fmt.Sprintf("%s: %x\n", value.Line(k), p.Value)
	}
	return s
}

const (
	tableT = "CREATE TABLE t (time INT, v INT) TIME time EVERY 10"
	viewH  = "CREATE VIEW h AS SELECT bucket(10, time) AS time, sum(v) AS s FROM t GROUP BY bucket(10, time)"
	viewK  = "CREATE VIEW k AS SELECT bucket(20, time) AS time, max(s) AS m FROM h GROUP BY bucket(20, time)"
	jobJ   = "CREATE JOB j REFRESH h FROM 100 TO 0 EVERY 10"
)

func TestExamples(t *testing.T) {
	x := fresh(t, tableT, viewH)
	x.script(
		"INSERT INTO t VALUES (3, 1), (12, 2)", "2",
		"UPDATE t SET v = v + time WHERE time > 5", "1",
		"SELECT * FROM h", "2; 0, 1; 10, 14",
		"UPDATE t SET v = 1 / (v - 1), v = 2", "5",
		"UPDATE t SET v = 1 / (v - 1)", "44",
		"INSERT INTO t VALUES (NULL, 1)", "45",
		"INSERT INTO t VALUES (1)", "1",
		"DELETE FROM h", "41",
		"CALL drop_chunks(t, 10)", "1",
		"SELECT count(*) FROM t", "1; 1",
	)
}

// The ten examples of the whole, but for power and jobs.
func TestTheWhole(t *testing.T) {
	x := fresh(t, tableT)
	x.script(
		"INSERT INTO t VALUES (3, 1), (12, 2)", "2",
		viewH, "0",
		"SELECT * FROM h", "2; 0, 1; 10, 2",
		"SELECT * FROM ONLY h", "0",
		"CALL refresh(h, NULL, 10)", "1",
		"SELECT * FROM ONLY h", "1; 0, 1",
		"INSERT INTO t VALUES (4, 5)", "1",
		"SELECT * FROM h", "2; 0, 6; 10, 2",
		"SELECT * FROM ONLY h", "1; 0, 1",
		"CALL refresh(h, NULL, NULL)", "3",
		"CALL refresh(h, NULL, NULL)", "0",
		viewK, "0",
		"SELECT * FROM k", "1; 0, 6",
		"CALL drop_chunks(t, 10)", "2",
		"SELECT * FROM h", "2; 0, 6; 10, 2",
		"INSERT INTO t VALUES (5, 1)", "1",
		"SELECT * FROM h", "2; 0, 1; 10, 2",
		"CALL refresh(h, NULL, NULL)", "2",
		"UPDATE t SET time = time + 20 WHERE time = 12", "1",
		"SELECT * FROM h", "2; 0, 1; 30, 2",
		"CALL compress(t, NULL)", "0",
		"SELECT * FROM h", "2; 0, 1; 30, 2",
		"SELECT * FROM t", "2; 5, 1; 32, 2",
		"DELETE FROM t WHERE time = 5", "1",
		"SELECT * FROM t", "1; 32, 2",
		"SELECT * FROM h WHERE time < 30", "0",
		"CALL decompress(t, NULL)", "0",
		"SELECT v FROM t ORDER BY time LIMIT 5", "1; 2",
	)
}

func TestErrors(t *testing.T) {
	x := fresh(t, "CREATE TABLE t (time INT, d TEXT, b BOOL, v INT) TIME time EVERY 10", "CREATE VIEW h AS SELECT bucket(10, time) AS time, sum(v) AS s FROM t GROUP BY bucket(10, time)", jobJ,
		"INSERT INTO t VALUES (1, 'a', TRUE, 0), (2, 'b', FALSE, 9223372036854775807), (3, NULL, NULL, NULL)")
	long := strings.Repeat("a", 65)
	was := x.image()
	x.script(
		"CREATE TABLE t (time INT) TIME time EVERY 10", "5",
		"CREATE TABLE u (time INT) TIME x EVERY 10", "41",
		"CREATE VIEW u AS SELECT * FROM x", "41",
		"CREATE JOB u COMPRESS h AFTER 1 EVERY 1", "41",
		"DROP TABLE t", "6", "DROP TABLE x", "41", "DROP VIEW t", "41", "DROP VIEW h", "6",
		"INSERT INTO x VALUES (1)", "41", "INSERT INTO h VALUES (1, 1)", "41", "INSERT INTO j VALUES (1)", "41",
		"INSERT INTO t VALUES (1, 'a', TRUE)", "1", "INSERT INTO t VALUES (1, 'a', TRUE, 1, 1)", "1", "INSERT INTO t VALUES (1, 1, TRUE, 1), (1)", "40", "INSERT INTO t VALUES (1 / 0, 'a', TRUE, 1), (1)", "1",
		"INSERT INTO t VALUES (time, 'a', TRUE, 1)", "41", "INSERT INTO t VALUES (count(*), 'a', TRUE, 1)", "42", "INSERT INTO t VALUES (1, 'a', TRUE, 1 + 'a')", "40", "INSERT INTO t VALUES (bucket(0, 1), 'a', TRUE, 1)", "21",
		"INSERT INTO t VALUES (1, 'a', 1, 1)", "40", "INSERT INTO t VALUES ('a', 'a', NULL, x)", "40",
		"INSERT INTO t VALUES (1, 'a', TRUE, 1 / 0)", "44", "INSERT INTO t VALUES (NULL, 'a', TRUE, 1), (1, 'a', TRUE, 1 / 0)", "44", "INSERT INTO t VALUES (1, 'a', TRUE, 9223372036854775807 + 1), (1, 'a', TRUE, 1 / 0)", "43",
		"INSERT INTO t VALUES (1, '"+long+"', TRUE, 1)", "2", "INSERT INTO t VALUES (NULL, 'a', TRUE, 1), (1, '"+long+"', TRUE, 1)", "45", "INSERT INTO t VALUES (NULL, '"+long+"', TRUE, 1)", "2", "INSERT INTO t VALUES (4611686018427387904, 'a', TRUE, 1)", "7",
		"UPDATE x SET v = 1", "41", "UPDATE h SET s = 1", "41", "UPDATE t SET x = 1", "41", "UPDATE t SET v = 1, v = x", "5", "UPDATE t SET v = x, v = 1", "41", "UPDATE t SET v = 'a', x = 1", "40", "UPDATE t SET v = d", "40", "UPDATE t SET v = sum(v)", "42",
		"UPDATE t SET v = 1 WHERE x", "41", "UPDATE t SET v = 1 WHERE v", "40", "UPDATE t SET v = 'a' WHERE x", "40", "UPDATE t SET v = 1 WHERE count(*) = 1", "42",
		"UPDATE t SET v = 1 WHERE 1 / v = 1", "44", "UPDATE t SET v = 1 WHERE 1 / v = v + 1", "43", "UPDATE t SET v = 1 / v, time = v + 1", "43", "UPDATE t SET v = 1 / v, time = v + 1 WHERE v = 0", "44", "UPDATE t SET v = v + 1 WHERE 1 / v = 1", "44",
		"UPDATE t SET time = NULL", "45", "UPDATE t SET time = v", "7", "UPDATE t SET d = '"+long+"', time = v", "2", "UPDATE t SET time = v WHERE v IS NULL", "45", "UPDATE t SET time = 1 / v", "44", "UPDATE t SET v = v + 1 WHERE 1 / v = 0", "44", "UPDATE t SET time = v, v = 1 / v", "44",
		"DELETE FROM x", "41", "DELETE FROM t WHERE x", "41", "DELETE FROM t WHERE d", "40", "DELETE FROM t WHERE 1 / v = 1", "44", "DELETE FROM t WHERE v + 1 = 1 / v", "43",
		"SELECT * FROM x", "41", "SELECT * FROM j", "41", "SELECT x FROM t", "41", "SELECT v FROM t WHERE v", "40", "SELECT 1 / v FROM t", "44", "SELECT v + 1 FROM ONLY t", "43", "SELECT x FROM h", "41", "SELECT sum(v) FROM h", "41", "SELECT x, count(*) FROM t", "41", "SELECT v, count(*) FROM t", "42", "SELECT v + x FROM t GROUP BY d", "42", "SELECT 1 / s FROM ONLY h WHERE 1 / 0 = 1", "0",
		"CALL refresh(t, NULL, NULL)", "41", "CALL refresh(x, NULL, NULL)", "41", "CALL refresh(h, 4611686018427387904, NULL)", "7", "CALL refresh(h, NULL, -4611686018427387905)", "7",
		"CALL compress(h, NULL)", "41", "CALL decompress(x, NULL)", "41", "CALL drop_chunks(h, NULL)", "41", "CALL compress(t, 4611686018427387904)", "7", "CALL decompress(t, 4611686018427387904)", "7", "CALL drop_chunks(t, -4611686018427387905)", "7", "CALL drop_chunks(t, -4611686018427387904)", "0",
	)
	is(t, "the base", x.image(), was)
	yes := api.Expr{Op: api.OpLit, Value: api.Value{Kind: api.Bool, Int: 1}}
	for i, c := range []struct {
		s    api.Stmt
		code api.Errno
	}{
		{api.Stmt{}, api.ErrArg}, {api.Stmt{Kind: 13}, api.ErrArg}, {api.Stmt{Kind: api.StTable}, api.ErrForm},
		{api.Stmt{Kind: api.StUpdate, Name: "t", Where: []api.Expr{yes, yes}}, api.ErrArg}, {api.Stmt{Kind: api.StDelete, Name: "t", Where: []api.Expr{yes, yes}}, api.ErrArg}, {api.Stmt{Kind: api.StDelete, Name: "t", Where: []api.Expr{{}}}, api.ErrForm},
		{api.Stmt{Kind: api.StCompress, Name: "t", To: api.Value{Kind: api.Bool}}, api.ErrArg}, {api.Stmt{Kind: api.StCompress, Name: "t", To: api.Value{Int: 1}}, api.ErrArg}, {api.Stmt{Kind: api.StDropChunks, Name: "t", To: api.Value{Kind: api.Int, Int: 1, Text: "a"}}, api.ErrArg}, {api.Stmt{Kind: api.StDecompress, Name: "x", To: api.Value{Kind: 9}}, api.ErrName},
		{api.Stmt{Kind: api.StRefresh, Name: "h", From: api.Value{Kind: api.Text}}, api.ErrArg},
		{api.Stmt{Kind: api.StSelect, Query: api.Query{From: "t", Limit: []int64{-1}}}, api.ErrArg},
	} {
		if _, code := x.stmt(c.s); code != c.code {
			t.Errorf("%d: %d", i, code)
		}
	}
	r, code := Do(nil, x.c, api.Stmt{}, 0)
	_, code2 := Do(x.b, nil, api.Stmt{}, 0)
	n, code3 := Next(nil, "j")
	c, code4 := Load(nil)
	is(t, "nil", []any{reflect.DeepEqual(r, api.Result{}), code, code2, n, code3, c == nil, code4, SetNext(nil, "j", 1)}, []any{true, api.ErrNil, api.ErrNil, 0, api.ErrNil, true, api.ErrNil, api.ErrNil})
}

// What need not be looked at does not go wrong.
func TestWhatIsLookedAt(t *testing.T) {
	x := fresh(t, "CREATE TABLE t (time INT, d TEXT, v INT) TIME time EVERY 10 SPACE d INTO 16", "CREATE VIEW h AS SELECT bucket(10, time) AS time, sum(v) AS s FROM t GROUP BY bucket(10, time)",
		"INSERT INTO t VALUES (1, 'a', 9223372036854775807), (2, 'b', 1), (11, 'a', 1), (21, 'a', 5)")
	x.script(
		"SELECT * FROM h", "43",
		"SELECT * FROM h WHERE time > 0", "2; 10, 1; 20, 5",
		"SELECT * FROM h WHERE time + 0 > 0", "43",
		"SELECT * FROM h WHERE time = 0", "43",
		"SELECT * FROM h WHERE FALSE", "0",
		"CALL refresh(h, 10, 20)", "1",
		"CALL refresh(h, NULL, NULL)", "43",
		"SELECT * FROM ONLY h WHERE time = 10", "1; 10, 1",
		"SELECT v FROM t WHERE d = 'b' AND time < 5", "1; 1",
		"SELECT v FROM t WHERE d = 'a' AND time >= 11", "2; 1; 5",
		"UPDATE t SET v = v + 1 WHERE d = 'a' AND time > 5", "2",
		"UPDATE t SET d = 'b' WHERE d = 'a' AND time = 11", "1",
		"DELETE FROM t WHERE d = 'b' AND time > 5", "1",
		"SELECT * FROM t", "3; 1, 'a', 9223372036854775807; 2, 'b', 1; 21, 'a', 6",
	)
}

func TestInTheBase(t *testing.T) {
	x := fresh(t, tableT, viewH, jobJ)
	n := func(i int64) []byte { b, _ := row.Put([]uint8{api.Int}, []api.Value{num(i)}); return b }
	is(t, "the base", x.image(), fmt.Sprintf("1, 'h': %x\n1, 'j': %x\n1, 't': %x\n10, 'j': %x\n", viewH, jobJ, tableT, n(77)))
	next, code := Next(x.b, "j")
	is(t, "Next", []any{next, code}, []any{77, api.OK})
	next, code = Next(x.b, "x")
	is(t, "Next", []any{next, code, SetNext(x.b, "j", -5)}, []any{0, api.OK, api.OK})
	next, _ = Next(x.b, "j")
	is(t, "Next", next, -5)
	x.script("INSERT INTO t VALUES (3, 1), (12, 2), (25, 3)", "3", "CALL refresh(h, 0, 20)", "2", "INSERT INTO t VALUES (3, 1)", "1", "CALL compress(t, 10)", "0")
	log, _ := stale.Log(x.b, "t")
	is(t, "Log", log, "[{3 4}]")
	x.script("DELETE FROM t WHERE time = 12", "1", "UPDATE t SET time = 13 WHERE time = 25", "1")
	log, _ = stale.Log(x.b, "t")
	is(t, "Log", log, "[{3 4} {12 14}]")
	x.script("CALL drop_chunks(t, 10)", "2")
	log, _ = stale.Log(x.b, "t")
	is(t, "Log", log, "[{3 4} {12 14}]")
	x.script("DROP JOB j", "0", "DROP VIEW h", "0", "DROP TABLE t", "0")
	is(t, "the base", x.image(), "")
	x.b.Put(named(kindNext, text("j")), []byte{9})
	_, code = Next(x.b, "j")
	is(t, "Next", code, api.ErrBroken)
}

func TestLoad(t *testing.T) {
	x := fresh(t, "CREATE TABLE z (time INT) TIME time EVERY 10", "CREATE VIEW y AS SELECT bucket(10, time) AS time FROM z GROUP BY bucket(10, time)",
		"CREATE VIEW x AS SELECT bucket(10, time) AS time FROM y GROUP BY bucket(10, time)", "CREATE JOB a REFRESH x FROM 5 TO 1 EVERY 2", "DROP JOB a", "CREATE JOB b DROP z AFTER 5 EVERY 2")
	c, code := Load(x.b)
	is(t, "Load", code, api.OK)
	is(t, "Names", c.Names(0), x.c.Names(0))
	for _, n := range c.Names(0) {
		is(t, "Def", []any{c.Def(n), c.Columns(n), c.Chain(n)}, []any{x.c.Def(n), x.c.Columns(n), x.c.Chain(n)})
	}
	for i, p := range [][2]string{
		{"w", "CREATE TABLE"}, {"w", ""}, {"w", "SELECT * FROM z"}, {"w", "CREATE TABLE v (time INT) TIME time EVERY 10"}, {"w", "CREATE VIEW w AS SELECT bucket(10, time) AS time FROM q GROUP BY bucket(10, time)"}, {"w", "CREATE JOB w DROP x AFTER 5 EVERY 2"},
	} {
		x.b.Put(named(kindDef, text(p[0])), []byte(p[1]))
		c, code := Load(x.b)
		if c != nil || code != api.ErrBroken {
			t.Errorf("%d: Load: %d", i, code)
		}
		x.b.Abort()
	}
	x.b.Put(named(kindDef, num(5)), []byte("CREATE TABLE w (time INT) TIME time EVERY 10"))
	_, code = Load(x.b)
	is(t, "Load", code, api.ErrBroken)
	x.b.Abort()
	x.b.Put(named(kindDef, text("w")), []byte("create table w(time int)time time every 10;"))
	c, code = Load(x.b)
	is(t, "Load", []any{c.Names(api.StTable), code}, "[[w z] error 0]")
}

// What a condition lets be is found, whatever need not be looked at, and whether it is packed or not.
func TestAnswersAreThoseOverAllRows(t *testing.T) {
	r := rand.New(rand.NewSource(1))
	x := fresh(t, "CREATE TABLE t (time INT, d TEXT, v INT) TIME time EVERY 10 SPACE d INTO 3",
		"CREATE VIEW h AS SELECT bucket(5, time) AS time, d, sum(v) AS v FROM t GROUP BY bucket(5, time), d")
	pick := func(l ...string) string { return l[r.Intn(len(l))] }
	var cond func(depth int) string
	cond = func(depth int) string {
		if depth == 0 || r.Intn(3) == 0 {
			n := fmt.Sprint(r.Intn(60))
			return pick("time < "+n, "time >= "+n, n+" > time", "time = "+n, "d = 'a'", "'b' = d", "d <> 'a'", "v > 3", "d IS NULL", "v + 0 = 2", "NULL = time", "FALSE", "d = 'c'")
		}
		return "(" + cond(depth-1) + pick(" AND ", " OR ") + cond(depth-1) + ")"
	}
	for range 400 {
		switch r.Intn(5) {
		case 0:
			x.do(fmt.Sprintf("CALL %s(t, %d)", pick("compress", "decompress"), r.Intn(70)))
		case 1:
			x.do(fmt.Sprintf("CALL refresh(h, %d, NULL)", r.Intn(60)))
		default:
			x.do(fmt.Sprintf("INSERT INTO t VALUES (%d, %s, %d)", r.Intn(60), pick("'a'", "'b'", "'c'", "NULL"), r.Intn(9)))
		}
		tab, _ := x.c.Get("t")
		all, _ := chunk.Rows(x.b, tab, cagg.All()[0], nil)
		view, _ := cagg.Rows(x.b, x.c, "h", cagg.All())
		for name, rows := range map[string][][]api.Value{"t": all, "h": view} {
			sql := "SELECT * FROM " + name + " WHERE " + cond(3)
			s, _, _ := parse.Parse(sql)
			want, code := query.Run(s.Query, x.c.Columns(name), rows)
			is(t, sql, told(x.do(sql)), told(want, code))
		}
		where := cond(2)
		s, _, _ := parse.Parse("SELECT * FROM t WHERE " + where)
		want, _ := query.Run(s.Query, x.c.Columns("t"), all)
		if r.Intn(4) == 0 {
			got, _ := x.do("DELETE FROM t WHERE " + where)
			is(t, where, got.Count, want.Count)
			is(t, where, told(x.do("SELECT * FROM t WHERE "+where)), "0")
		}
	}
}

// What is wrong with a statement is told, whether there are rows or not, and ahead of what goes wrong with rows.
func TestWithoutRows(t *testing.T) {
	x := fresh(t, tableT, viewH, jobJ)
	x.script(
		"DELETE FROM t WHERE v", "40", "DELETE FROM t WHERE x = 1", "41", "DELETE FROM t WHERE 1 / 0 = 1", "0", "UPDATE t SET v = 1 WHERE 'a'", "40", "UPDATE t SET v = TRUE", "40",
		"SELECT 1 + 'a' FROM x", "41", "SELECT 1 + 'a' FROM j", "41", "SELECT 1 + 'a' FROM t", "40",
		"INSERT INTO t VALUES (1, 9223372036854775807), (2, 1)", "2",
		"SELECT * FROM h", "43", "SELECT x FROM h", "41", "SELECT s FROM h WHERE s", "40",
		"INSERT INTO t VALUES (4611686018427387903, 1), (- 4611686018427387903 - 1, 1)", "2",
		"CALL compress(t, NULL)", "0",
		"CALL drop_chunks(t, 4611686018427387903)", "3",
		"CALL drop_chunks(t, NULL)", "1",
	)
}
