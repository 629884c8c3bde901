package print

import (
	"fmt"
	"math/rand"
	"reflect"
	"strings"
	"testing"

	"tideline/api"
	"tideline/parse"
)

func num(i int64) api.Value   { return api.Value{Kind: api.Int, Int: i} }
func text(s string) api.Value { return api.Value{Kind: api.Text, Text: s} }

func col(s string) api.Expr                 { return api.Expr{Op: api.OpCol, Name: s} }
func lit(v api.Value) api.Expr              { return api.Expr{Op: api.OpLit, Value: v} }
func op(o uint8, args ...api.Expr) api.Expr { return api.Expr{Op: o, Args: args} }

func TestPrint(t *testing.T) {
	for _, x := range [][2]string{
		{"select a+1*2 as x from t", "SELECT a + (1 * 2) AS x FROM t"},
		{"select not a is null from only t where b='it''s'", "SELECT NOT (a IS NULL) FROM ONLY t WHERE b = 'it''s'"},
		{"select bucket(5,time),count(*) from t group by bucket(5,time)", "SELECT bucket(5, time), count(*) FROM t GROUP BY bucket(5, time)"},
		{"call refresh(v,-5,null)", "CALL refresh(v, -5, NULL)"},
		{"call compress(v,5);", "CALL compress(v, 5)"},
		{"call decompress(v,null)", "CALL decompress(v, NULL)"},
		{"call drop_chunks(v,- 7)", "CALL drop_chunks(v, -7)"},
		{"select * from t", "SELECT * FROM t"},
		{"select - - a, -(1+2), not not a from t", "SELECT - (- a), - (1 + 2), NOT (NOT a) FROM t"},
		{"select (a) is not null, -5 from t", "SELECT a IS NOT NULL, - 5 FROM t"},
		{"select sum(a+1)-first(-a,b)>=avg((count)) from t", "SELECT (sum(a + 1) - first(- a, b)) >= avg(count) FROM t"},
		{"select max(a),min(b),last(a,b),count(a or b) from t", "SELECT max(a), min(b), last(a, b), count(a OR b) FROM t"},
		{"select a from t where true having false and null order by a desc,b limit 07", ""},
		{"select a from t where true group by a,b having false and null order by a desc,b limit 7", "SELECT a FROM t WHERE TRUE GROUP BY a, b HAVING FALSE AND NULL ORDER BY a DESC, b LIMIT 7"},
		{"create table t(time int,d text,b bool)time time every 10 space d into 2", "CREATE TABLE t (time INT, d TEXT, b BOOL) TIME time EVERY 10 SPACE d INTO 2"},
		{"create table t(time int)time time every 10", "CREATE TABLE t (time INT) TIME time EVERY 10"},
		{"create view v as select a%b,a/b,a-b,a<>b,a<b,a<=b,a>b,a=b from t", "CREATE VIEW v AS SELECT a % b, a / b, a - b, a <> b, a < b, a <= b, a > b, a = b FROM t"},
		{"create job j refresh v from 100 to 0 every 10", "CREATE JOB j REFRESH v FROM 100 TO 0 EVERY 10"},
		{"create job j compress v after 100 every 10", "CREATE JOB j COMPRESS v AFTER 100 EVERY 10"},
		{"create job j drop v after 100 every 10", "CREATE JOB j DROP v AFTER 100 EVERY 10"},
		{"drop table t", "DROP TABLE t"}, {"drop view t", "DROP VIEW t"}, {"drop job t", "DROP JOB t"},
		{"insert into t values(1,'('),(-1,',')", "INSERT INTO t VALUES (1, '('), (- 1, ',')"},
		{"update t set a=1,b=(a=b)where a is null", "UPDATE t SET a = 1, b = a = b WHERE a IS NULL"},
		{"delete from t where a", "DELETE FROM t WHERE a"},
		{"select a from t limit 0", "SELECT a FROM t LIMIT 0"},
		{"create table t(a int)time a every 0 space a into 0", "CREATE TABLE t (a INT) TIME a EVERY 0 SPACE a INTO 0"},
		{"create job j refresh v from 0 to 0 every 0", "CREATE JOB j REFRESH v FROM 0 TO 0 EVERY 0"},
		{"create job j compress v after 0 every 0", "CREATE JOB j COMPRESS v AFTER 0 EVERY 0"},
		{"delete from t", "DELETE FROM t"},
	} {
		s, _, code := parse.Parse(x[0])
		if code != api.OK {
			if x[1] != "" {
				t.Errorf("%s: %d", x[0], code)
			}
			continue
		}
		if g, code := Print(s); g != x[1] || code != api.OK {
			t.Errorf("%s: %s, %d, not %s", x[0], g, code, x[1])
		}
	}
}

func TestExpr(t *testing.T) {
	deep := func(n int) api.Expr {
		e := col("a")
		for range n - 1 {
			e = op(api.OpNot, e)
		}
		return e
	}
	width := func(w int64) api.Expr { return api.Expr{Op: api.OpBucket, Width: w, Args: []api.Expr{col("a")}} }
	for _, x := range []struct {
		e    api.Expr
		want string
		code api.Errno
	}{
		{op(api.OpMul, op(api.OpAdd, col("a"), lit(num(1))), col("b")), "(a + 1) * b", api.OK},
		{lit(num(0)), "0", api.OK},
		{width(0), "bucket(0, a)", api.OK},
		{width(-1), "", api.ErrForm},
		{deep(32), strings.Repeat("NOT (", 30) + "NOT a" + strings.Repeat(")", 30), api.OK},
		{deep(33), "", api.ErrForm},
		{deep(60000), "", api.ErrForm},
		{lit(num(-1)), "", api.ErrForm},
		{lit(api.Value{Kind: api.Bool, Int: 2}), "", api.ErrForm},
		{lit(api.Value{Kind: 9}), "", api.ErrForm},
		{col(""), "", api.ErrForm}, {col("A"), "", api.ErrForm}, {col("from"), "", api.ErrForm}, {col(strings.Repeat("n", 33)), "", api.ErrForm},
		{op(0), "", api.ErrForm}, {op(99), "", api.ErrForm}, {op(api.OpNot), "", api.ErrForm}, {op(api.OpAdd, col("a")), "", api.ErrForm},
		{op(api.OpCountAll, col("a")), "", api.ErrForm}, {op(api.OpFirst, col("a")), "", api.ErrForm}, {op(api.OpSum, col("a"), col("b")), "", api.ErrForm},
		{op(api.OpNot, op(api.OpNot, lit(num(-1)))), "", api.ErrForm},
		{api.Expr{Op: api.OpCol, Name: "a", Width: 1}, "", api.ErrForm},
		{api.Expr{Op: api.OpCol, Name: "a", Value: num(1)}, "", api.ErrForm},
		{api.Expr{Op: api.OpLit, Name: "a"}, "", api.ErrForm},
		{api.Expr{Op: api.OpLit, Width: 1}, "", api.ErrForm},
		{api.Expr{Op: api.OpCountAll, Name: "a"}, "", api.ErrForm},
		{lit(text(strings.Repeat("a", api.MaxSql-2))), "'" + strings.Repeat("a", api.MaxSql-2) + "'", api.OK},
		{lit(text(strings.Repeat("a", api.MaxSql-1))), "", api.ErrLong},
		{lit(text(strings.Repeat("'", 2048))), "", api.ErrLong},
	} {
		if g, code := Expr(x.e); g != x.want || code != x.code {
			t.Errorf("%.200v: %.80s, %d", x.e, g, code)
		}
	}
}

// spoilt are statements that can't be told, each made of one that can by a small change.
func spoilt() map[string]func(s *api.Stmt) {
	a := col("a")
	return map[string]func(s *api.Stmt){
		"kind":       func(s *api.Stmt) { s.Kind = 13 },
		"no kind":    func(s *api.Stmt) { s.Kind = 0 },
		"name":       func(s *api.Stmt) { s.Name += "?" },
		"cols":       func(s *api.Stmt) { s.Cols = append(s.Cols, api.Column{Name: "x"}) },
		"time":       func(s *api.Stmt) { s.Time += "?" },
		"every":      func(s *api.Stmt) { s.Every = -s.Every - 1 },
		"space":      func(s *api.Stmt) { s.Space += "?" },
		"parts":      func(s *api.Stmt) { s.Parts = -s.Parts - 1 },
		"from":       func(s *api.Stmt) { s.Query.From += "?" },
		"items":      func(s *api.Stmt) { s.Query.Items = append(s.Query.Items, api.Item{}) },
		"as":         func(s *api.Stmt) { s.Query.Items = append(s.Query.Items, api.Item{E: a, As: "?"}) },
		"group":      func(s *api.Stmt) { s.Query.Group = append(s.Query.Group, api.Expr{}) },
		"having":     func(s *api.Stmt) { s.Query.Having = []api.Expr{a, a} },
		"wheres":     func(s *api.Stmt) { s.Query.Where = []api.Expr{a, a} },
		"order":      func(s *api.Stmt) { s.Query.Order = append(s.Query.Order, api.Order{}) },
		"limit":      func(s *api.Stmt) { s.Query.Limit = []int64{-1} },
		"limits":     func(s *api.Stmt) { s.Query.Limit = []int64{1, 1} },
		"many items": func(s *api.Stmt) { s.Query.Items = make([]api.Item, 65) },
		"what":       func(s *api.Stmt) { s.What += 20 },
		"of":         func(s *api.Stmt) { s.Of += "?" },
		"a":          func(s *api.Stmt) { s.A = -s.A - 1 },
		"b":          func(s *api.Stmt) { s.B = -s.B - 1 },
		"rows":       func(s *api.Stmt) { s.Rows = append(s.Rows, nil) },
		"many rows":  func(s *api.Stmt) { s.Rows = make([][]api.Expr, 65) },
		"sets":       func(s *api.Stmt) { s.Sets = append(s.Sets, api.Set{}) },
		"set's name": func(s *api.Stmt) { s.Sets = append(s.Sets, api.Set{Name: "?", E: a}) },
		"set":        func(s *api.Stmt) { s.Sets = append(s.Sets, api.Set{Name: "a"}) },
		"where":      func(s *api.Stmt) { s.Where = []api.Expr{a, a} },
		"to":         func(s *api.Stmt) { s.To = num(-1 << 63) },
		"to text":    func(s *api.Stmt) { s.To = text("a") },
		"start":      func(s *api.Stmt) { s.From = num(-1 << 63) },
		"start null": func(s *api.Stmt) { s.From = api.Value{Text: "a"} },
	}
}

func texts() []string {
	return []string{
		"CREATE TABLE t (time INT, d TEXT) TIME time EVERY 10 SPACE d INTO 2",
		"CREATE TABLE t (time INT) TIME time EVERY 0",
		"CREATE VIEW v AS SELECT a FROM t", "CREATE JOB j REFRESH v FROM 100 TO 0 EVERY 10", "CREATE JOB j DROP v AFTER 100 EVERY 10",
		"DROP VIEW v", "INSERT INTO t VALUES (1)", "UPDATE t SET a = 1", "DELETE FROM t WHERE a",
		"SELECT a AS x FROM t WHERE a GROUP BY b HAVING c ORDER BY a DESC LIMIT 4", "SELECT * FROM t",
		"CALL refresh(v, 1, 2)", "CALL compress(t, 1)", "CALL decompress(t, 1)", "CALL drop_chunks(t, NULL)",
	}
}

func TestWhatCannotBeTold(t *testing.T) {
	for _, sql := range texts() {
		s, _, code := parse.Parse(sql)
		if g, code2 := Print(s); code != api.OK || code2 != api.OK || g != sql {
			t.Errorf("%s: %d, %s, %d", sql, code, g, code2)
		}
		for what, spoil := range spoilt() {
			x := s
			spoil(&x)
			if g, code := Print(x); code != api.ErrForm || g != "" {
				t.Errorf("%s with another %s: %s, %d", sql, what, g, code)
			}
		}
	}
	for what, s := range map[string]api.Stmt{
		"no columns": {Kind: api.StTable, Name: "t", Time: "time"},
		"no rows":    {Kind: api.StInsert, Name: "t"},
		"no values":  {Kind: api.StInsert, Name: "t", Rows: [][]api.Expr{{}}},
		"no sets":    {Kind: api.StUpdate, Name: "t"},
		"parts":      {Kind: api.StTable, Name: "t", Cols: []api.Column{{Name: "a", Type: api.Int}}, Time: "a", Parts: 1},
		"b":          {Kind: api.StJob, Name: "t", What: api.StCompress, Of: "t", B: 1},
		"decompress": {Kind: api.StJob, Name: "t", What: api.StDecompress, Of: "t"},
		"drop":       {Kind: api.StDrop, Name: "t", What: api.StRefresh},
		"empty":      {},
	} {
		if g, code := Print(s); code != api.ErrForm || g != "" {
			t.Errorf("%s: %s, %d", what, g, code)
		}
	}
	long := api.Stmt{Kind: api.StInsert, Name: "t", Rows: [][]api.Expr{{lit(text(strings.Repeat("a", 4100)))}}}
	if g, code := Print(long); code != api.ErrLong || g != "" {
		t.Errorf("a long one: %d", code)
	}
}

// random is an expression that can be told.
func random(r *rand.Rand, depth int) api.Expr {
	o := uint8(1 + r.Intn(28))
	args := 2
	switch {
	case depth == 1 || o <= api.OpCol:
		if r.Intn(2) == 0 {
			return col([]string{"a", "b", "count", "time"}[r.Intn(4)])
		}
		return lit([]api.Value{{}, num(r.Int63()), text("it's "), {Kind: api.Bool, Int: 1}}[r.Intn(4)])
	case o == api.OpCountAll:
		args = 0
	case o == api.OpNeg || o == api.OpNot || o >= api.OpIsNull && o <= api.OpAvg:
		args = 1
	}
	e := api.Expr{Op: o}
	if o == api.OpBucket {
		e.Width = int64(r.Intn(9))
	}
	for range args {
		e.Args = append(e.Args, random(r, depth-1))
	}
	return e
}

func TestWhatIsToldIsReadAsTheStatement(t *testing.T) {
	r := rand.New(rand.NewSource(1))
	alike := func(a, b any) bool {
		s := func(x any) string { return strings.ReplaceAll(fmt.Sprintf("%#v", x), "(nil)", "{}") }
		return reflect.DeepEqual(a, b) || s(a) == s(b)
	}
	for range 2000 {
		s := api.Stmt{Kind: api.StSelect, Query: api.Query{From: "t", Only: r.Intn(2) == 0}}
		for range r.Intn(3) {
			s.Query.Items = append(s.Query.Items, api.Item{E: random(r, 4), As: []string{"", "x"}[r.Intn(2)]})
			s.Query.Group = append(s.Query.Group, random(r, 3))
			s.Query.Order = append(s.Query.Order, api.Order{E: random(r, 3), Desc: r.Intn(2) == 0})
			s.Query.Where = []api.Expr{random(r, 5)}
		}
		sql, code := Print(s)
		if code == api.ErrLong {
			continue
		}
		g, at, code2 := parse.Parse(sql)
		if code != api.OK || code2 != api.OK || !alike(s, g) {
			t.Fatalf("%s: %d; %d, %d", sql, code, at, code2)
		}
		if again, _ := Print(g); again != sql {
			t.Fatalf("%s and %s", sql, again)
		}
	}
}
