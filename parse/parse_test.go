package parse

import (
	"fmt"
	"reflect"
	"strings"
	"testing"

	"tideline/api"
	"tideline/token"
)

func num(i int64) api.Value   { return api.Value{Kind: api.Int, Int: i} }
func text(s string) api.Value { return api.Value{Kind: api.Text, Text: s} }
func truth(i int64) api.Value { return api.Value{Kind: api.Bool, Int: i} }

func col(s string) api.Expr                 { return api.Expr{Op: api.OpCol, Name: s} }
func lit(v api.Value) api.Expr              { return api.Expr{Op: api.OpLit, Value: v} }
func op(o uint8, args ...api.Expr) api.Expr { return api.Expr{Op: o, Args: args} }
func bucket(w int64, e api.Expr) api.Expr {
	return api.Expr{Op: api.OpBucket, Width: w, Args: []api.Expr{e}}
}
func items(l ...api.Expr) (out []api.Item) {
	for _, e := range l {
		out = append(out, api.Item{E: e})
	}
	return out
}

// same tells whether two statements are alike; empty lists are none.
func same(a, b any) bool {
	s := func(x any) string { return strings.ReplaceAll(fmt.Sprintf("%#v", x), "(nil)", "{}") }
	return reflect.DeepEqual(a, b) || s(a) == s(b)
}

func statements_() map[string]api.Stmt {
	a, b, c, x := col("a"), col("b"), col("c"), col("x")
	return map[string]api.Stmt{
		"CREATE TABLE t (time INT, d TEXT) TIME time EVERY 10 SPACE d INTO 2;": {Kind: api.StTable, Name: "t", Cols: []api.Column{{Name: "time", Type: api.Int}, {Name: "d", Type: api.Text}}, Time: "time", Every: 10, Space: "d", Parts: 2},
		"create table table (view bool) time every every 0":                    {Kind: api.StTable, Name: "table", Cols: []api.Column{{Name: "view", Type: api.Bool}}, Time: "every"},
		"create view v as select * from t":                                     {Kind: api.StView, Name: "v", Query: api.Query{From: "t"}},
		"create job j refresh v from 100 to 0 every 7":                         {Kind: api.StJob, Name: "j", What: api.StRefresh, Of: "v", A: 100, Every: 7},
		"create job j compress t after 5 every 7":                              {Kind: api.StJob, Name: "j", What: api.StCompress, Of: "t", A: 5, Every: 7},
		"create job job drop t after 5 every 7":                                {Kind: api.StJob, Name: "job", What: api.StDropChunks, Of: "t", A: 5, Every: 7},
		"drop table t":                                                         {Kind: api.StDrop, What: api.StTable, Name: "t"},
		"drop view t;":                                                         {Kind: api.StDrop, What: api.StView, Name: "t"},
		"drop job job":                                                         {Kind: api.StDrop, What: api.StJob, Name: "job"},
		"insert into t values (1, 'a'), (null, true), (-2)":                    {Kind: api.StInsert, Name: "t", Rows: [][]api.Expr{{lit(num(1)), lit(text("a"))}, {lit(api.Value{}), lit(truth(1))}, {op(api.OpNeg, lit(num(2)))}}},
		"update t set a = 1, b = a where x":                                    {Kind: api.StUpdate, Name: "t", Sets: []api.Set{{Name: "a", E: lit(num(1))}, {Name: "b", E: a}}, Where: []api.Expr{x}},
		"update t set a = b = c":                                               {Kind: api.StUpdate, Name: "t", Sets: []api.Set{{Name: "a", E: op(api.OpEq, b, c)}}},
		"delete from t":                                                        {Kind: api.StDelete, Name: "t"},
		"delete from t where false":                                            {Kind: api.StDelete, Name: "t", Where: []api.Expr{lit(truth(0))}},
		"call refresh(v, -5, null)":                                            {Kind: api.StRefresh, Name: "v", From: num(-5)},
		"call refresh(v, null, - 9223372036854775807)":                         {Kind: api.StRefresh, Name: "v", To: num(-1<<63 + 1)},
		"call compress(t, 7)":                                                  {Kind: api.StCompress, Name: "t", To: num(7)},
		"call decompress(t, 0)":                                                {Kind: api.StDecompress, Name: "t", To: num(0)},
		"call drop_chunks(t, null)":                                            {Kind: api.StDropChunks, Name: "t"},
		"select a as x, count from only t where a group by b, c having x order by a desc, b limit 3": {Kind: api.StSelect, Query: api.Query{
			Items: []api.Item{{E: a, As: "x"}, {E: col("count")}}, From: "t", Only: true, Where: []api.Expr{a}, Group: []api.Expr{b, c}, Having: []api.Expr{x}, Order: []api.Order{{E: a, Desc: true}, {E: b}}, Limit: []int64{3}}},
	}
}

func expressions() map[string]api.Expr {
	a, b, c := col("a"), col("b"), col("c")
	one, two := lit(num(1)), lit(num(2))
	return map[string]api.Expr{
		"a + 1 * 2":                op(api.OpAdd, a, op(api.OpMul, one, two)),
		"(a + 1) * 2":              op(api.OpMul, op(api.OpAdd, a, one), two),
		"a - b - c":                op(api.OpSub, op(api.OpSub, a, b), c),
		"a - (b - c)":              op(api.OpSub, a, op(api.OpSub, b, c)),
		"a / b % c * 1":            op(api.OpMul, op(api.OpMod, op(api.OpDiv, a, b), c), one),
		"a or b and c or a":        op(api.OpOr, op(api.OpOr, a, op(api.OpAnd, b, c)), a),
		"not a = b and not not c":  op(api.OpAnd, op(api.OpNot, op(api.OpEq, a, b)), op(api.OpNot, op(api.OpNot, c))),
		"not a is null":            op(api.OpNot, op(api.OpIsNull, a)),
		"a + b is not null":        op(api.OpNotNull, op(api.OpAdd, a, b)),
		"(a is null) is null":      op(api.OpIsNull, op(api.OpIsNull, a)),
		"a <> - b":                 op(api.OpNe, a, op(api.OpNeg, b)),
		"a < b":                    op(api.OpLt, a, b),
		"a <= b":                   op(api.OpLe, a, b),
		"a > b":                    op(api.OpGt, a, b),
		"a >= b + 1":               op(api.OpGe, a, op(api.OpAdd, b, one)),
		"- - a * - b":              op(api.OpMul, op(api.OpNeg, op(api.OpNeg, a)), op(api.OpNeg, b)),
		"-1":                       op(api.OpNeg, one),
		"bucket(5, a or b)":        bucket(5, op(api.OpOr, a, b)),
		"bucket(0, bucket(1, a))":  bucket(0, bucket(1, a)),
		"count(*)":                 op(api.OpCountAll),
		"count(a) + sum(b)":        op(api.OpAdd, op(api.OpCount, a), op(api.OpSum, b)),
		"min(a) = max(b)":          op(api.OpEq, op(api.OpMin, a), op(api.OpMax, b)),
		"avg(1)":                   op(api.OpAvg, one),
		"first(a, b) > last(b, 2)": op(api.OpGt, op(api.OpFirst, a, b), op(api.OpLast, b, two)),
		"count = sum":              op(api.OpEq, col("count"), col("sum")),
		"bucket":                   col("bucket"),
		"null":                     lit(api.Value{}),
		"'or'":                     lit(text("or")),
	}
}

func TestStatements(t *testing.T) {
	for sql, want := range statements_() {
		for _, s := range []string{sql, strings.ToUpper(sql), " -- x\n" + strings.ReplaceAll(sql, " ", "\n\t") + " "} {
			if s == strings.ToUpper(sql) && strings.Contains(sql, "'") {
				continue
			}
			got, at, code := Parse(s)
			if code != api.OK || at != 0 || !same(got, want) {
				t.Errorf("Parse(%q) = %+v, %d, %d", s, got, at, code)
			}
		}
	}
}

func TestExpressions(t *testing.T) {
	for s, want := range expressions() {
		for _, x := range []string{s, "(" + s + ")", "((" + s + "))"} {
			got, at, code := Parse("select " + x + " from t")
			if code != api.OK || at != 0 || !same(got.Query.Items, items(want)) {
				t.Errorf("%s: %+v, %d, %d", x, got.Query.Items, at, code)
			}
		}
	}
}

// Brackets more around any word that is an expression by itself change nothing.
func TestBracketsMore(t *testing.T) {
	for s, want := range expressions() {
		for _, name := range []string{"a", "b", "c"} {
			x := strings.Join(strings.FieldsFunc(strings.NewReplacer("(", " ( ", ")", " ) ", ",", " , ").Replace(s), func(r rune) bool { return r == ' ' }), " ")
			x = strings.ReplaceAll(" "+x+" ", " "+name+" ", " ("+name+") ")
			got, _, code := Parse("select" + x + "from t")
			if code != api.OK || !same(got.Query.Items, items(want)) {
				t.Errorf("%s: %d", x, code)
			}
		}
	}
}

func TestErrors(t *testing.T) {
	for _, x := range []struct {
		sql  string
		at   int
		code api.Errno
	}{
		{"SELECT a = b = c FROM t", 13, api.ErrParse},
		{"SELECT a FROM", 13, api.ErrParse},
		{"SELECT 1", 8, api.ErrParse},
		{"", 0, api.ErrParse},
		{";", 0, api.ErrParse},
		{"selec", 0, api.ErrParse},
		{"'select' a from t", 0, api.ErrParse},
		{"drop table t;;", 13, api.ErrParse},
		{"drop table t x", 13, api.ErrParse},
		{"drop table select", 11, api.ErrParse},
		{"drop t", 5, api.ErrParse},
		{"select foo(a) from t", 10, api.ErrParse},
		{"select count(*", 14, api.ErrParse},
		{"select sum(*) from t", 11, api.ErrParse},
		{"select first(a) from t", 14, api.ErrParse},
		{"select first(a, b, c) from t", 17, api.ErrParse},
		{"select bucket(a, b) from t", 14, api.ErrParse},
		{"select bucket(-5, b) from t", 14, api.ErrParse},
		{"select a is null is null from t", 17, api.ErrParse},
		{"select a is null = b from t", 17, api.ErrParse},
		{"select a = b is null from t", 13, api.ErrParse},
		{"select a = not b from t", 11, api.ErrParse},
		{"select a is 1 from t", 12, api.ErrParse},
		{"select *, a from t", 8, api.ErrParse},
		{"select a b from t", 9, api.ErrParse},
		{"select a as 'b' from t", 12, api.ErrParse},
		{"select from t", 7, api.ErrParse},
		{"select (a from t", 10, api.ErrParse},
		{"select a) from t", 8, api.ErrParse},
		{"select a from t where", 21, api.ErrParse},
		{"select a from t limit -1", 22, api.ErrParse},
		{"select a from t limit 1 where a", 24, api.ErrParse},
		{"select a from t having b where a", 25, api.ErrParse},
		{"select a from t order by a desc desc", 32, api.ErrParse},
		{"create table t () time a every 1", 16, api.ErrParse},
		{"create table t (a real) time a every 1", 18, api.ErrParse},
		{"create table t (a int) time a every -1", 36, api.ErrParse},
		{"create table t (a int) time a every 1 space a", 45, api.ErrParse},
		{"create view v as delete from t", 17, api.ErrParse},
		{"create job j refresh v after 5 every 1", 23, api.ErrParse},
		{"create job j compress v from 5 to 1 every 1", 24, api.ErrParse},
		{"insert into t values", 20, api.ErrParse},
		{"insert into t values ()", 22, api.ErrParse},
		{"insert into t values (1),", 25, api.ErrParse},
		{"insert into t values 1", 21, api.ErrParse},
		{"update t where a", 9, api.ErrParse},
		{"update t set a", 14, api.ErrParse},
		{"update t set a = 1 from t", 19, api.ErrParse},
		{"call refresh(v, 5)", 17, api.ErrParse},
		{"call refresh(v, - null, 1)", 18, api.ErrParse},
		{"call compress(v, 5, 5)", 18, api.ErrParse},
		{"call compress(v, 'a')", 17, api.ErrParse},
		{"call other(v, 5)", 5, api.ErrParse},
		{"select 'a", 7, api.ErrToken},
		{"selec 012", 6, api.ErrToken},
		{"select " + strings.Repeat("n", 33), 7, api.ErrLong},
		{strings.Repeat(" ", api.MaxSql+1), 0, api.ErrLong},
	} {
		s, at, code := Parse(x.sql)
		if code != x.code || at != x.at || !reflect.DeepEqual(s, api.Stmt{}) {
			t.Errorf("Parse(%q) = %v, %d, %d", x.sql, s, at, code)
		}
	}
}

// Of the words of a statement fewer may be the beginning of one; a word that is none stops it just there.
func TestPlaces(t *testing.T) {
	var all []string
	for sql := range statements_() {
		all = append(all, sql)
	}
	for s := range expressions() {
		all = append(all, "select "+s+" from t")
	}
	for _, sql := range all {
		words, _, _ := token.Lex(sql)
		for _, w := range words {
			part := sql[:w.At]
			if _, at, code := Parse(part); code != api.OK && (code != api.ErrParse || at != w.At) {
				t.Errorf("Parse(%q): %d, %d", part, at, code)
			}
			part += " call"
			if _, at, code := Parse(part); w.At > 0 && (code != api.ErrParse || at != w.At+1) {
				t.Errorf("Parse(%q): %d, %d", part, at, code)
			}
		}
	}
}

func TestLimits(t *testing.T) {
	many := func(s string, n int) string { return strings.Repeat(s+", ", n-1) + s }
	deep := func(n int) string { return strings.Repeat("not ", n-1) + "a" }
	for _, x := range []struct {
		sql  string
		code api.Errno
	}{
		{"select " + many("a", 64) + " from t", api.OK},
		{"select " + many("a", 65) + " from t", api.ErrLong},
		{"select a from t group by " + many("a", 65), api.ErrLong},
		{"select a from t order by " + many("a desc", 65), api.ErrLong},
		{"insert into t values (" + many("1", 65) + ")", api.ErrLong},
		{"insert into t values " + many("(1)", 64), api.OK},
		{"insert into t values " + many("(1)", 65), api.ErrLong},
		{"update t set " + many("a = 1", 65), api.ErrLong},
		{"create table t (" + many("a int", 64) + ") time a every 1", api.OK},
		{"create table t (" + many("a int", 65) + ") time a every 1", api.ErrLong},
		{"create table t (" + many("a int", 65) + ") time a every", api.ErrParse},
		{"select " + deep(32) + " from t", api.OK},
		{"select " + deep(33) + " from t", api.ErrDeep},
		{"select " + deep(33) + ", " + many("a", 65) + " from t", api.ErrLong},
		{"select " + deep(33) + " from", api.ErrParse},
		{"select a from t where " + deep(33), api.ErrDeep},
		{"select a from t order by " + deep(33), api.ErrDeep},
		{"select count(" + deep(31) + ") from t", api.OK},
		{"select count(" + deep(32) + ") from t", api.ErrDeep},
		{"select " + strings.Repeat("a + ", 31) + "a from t", api.OK},
		{"select " + strings.Repeat("a + ", 32) + "a from t", api.ErrDeep},
		{"select " + strings.Repeat("(", 2000) + "a" + strings.Repeat(")", 2000) + " from t", api.OK},
		{"select " + strings.Repeat("- ", 2000) + "a from t", api.ErrDeep},
	} {
		s, at, code := Parse(x.sql)
		if code != x.code || code != api.OK && (at != 0 && code != api.ErrParse || !reflect.DeepEqual(s, api.Stmt{})) {
			t.Errorf("Parse(%.60q): %d, %d", x.sql, at, code)
		}
	}
}
