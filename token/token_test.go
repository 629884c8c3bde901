package token

import (
	"math/rand"
	"slices"
	"strconv"
	"strings"
	"testing"

	"tideline/api"
)

func w(s string, at int) api.Token { return api.Token{Kind: api.TokWord, Text: s, At: at} }
func g(s string, at int) api.Token { return api.Token{Kind: api.TokSign, Text: s, At: at} }
func x(s string, at int) api.Token { return api.Token{Kind: api.TokText, Text: s, At: at} }
func n(i int64, at int) api.Token  { return api.Token{Kind: api.TokInt, Int: i, At: at} }
func e(at int) api.Token           { return api.Token{At: at} }

func TestLex(t *testing.T) {
	name := strings.Repeat("n", 32)
	for _, c := range []struct {
		sql  string
		want []api.Token
	}{
		{"SELECT a1,-- x", []api.Token{w("select", 0), w("a1", 7), g(",", 9), e(14)}},
		{"'it''s'<>12", []api.Token{x("it's", 0), g("<>", 7), n(12, 9), e(11)}},
		{"", []api.Token{e(0)}},
		{" \t\r\n--\n-- ", []api.Token{e(10)}},
		{"a--b\nc", []api.Token{w("a", 0), w("c", 5), e(6)}},
		{"1--1", []api.Token{n(1, 0), e(4)}},
		{"1 - -1", []api.Token{n(1, 0), g("-", 2), g("-", 4), n(1, 5), e(6)}},
		{"<<=<>>=>==", []api.Token{g("<", 0), g("<=", 1), g("<>", 3), g(">=", 5), g(">=", 7), g("=", 9), e(10)}},
		{"(),*+-/%=<>;", []api.Token{g("(", 0), g(")", 1), g(",", 2), g("*", 3), g("+", 4), g("-", 5), g("/", 6), g("%", 7), g("=", 8), g("<>", 9), g(";", 11), e(12)}},
		{"9223372036854775807 0", []api.Token{n(1<<63-1, 0), n(0, 20), e(21)}},
		{"''''", []api.Token{x("'", 0), e(4)}},
		{"''a''", []api.Token{x("", 0), w("a", 2), x("", 3), e(5)}},
		{"'a\nB\x00--\xff'", []api.Token{x("a\nB\x00--\xff", 0), e(9)}},
		{"_Az_09", []api.Token{w("_az_09", 0), e(6)}},
		{"ABCXYZ abcxyz aZzA", []api.Token{w("abcxyz", 0), w("abcxyz", 7), w("azza", 14), e(18)}},
		{name, []api.Token{w(name, 0), e(32)}},
		{"1'a'b", []api.Token{n(1, 0), x("a", 1), w("b", 4), e(5)}},
	} {
		l, at, code := Lex(c.sql)
		if code != api.OK || at != 0 || !slices.Equal(l, c.want) {
			t.Errorf("Lex(%q) = %v, %d, %d", c.sql, l, at, code)
		}
	}
}

func TestLexErrors(t *testing.T) {
	for _, c := range []struct {
		sql  string
		at   int
		code api.Errno
	}{
		{" 012", 1, api.ErrToken},
		{"00", 0, api.ErrToken},
		{"a 1a", 2, api.ErrToken},
		{"1_", 0, api.ErrToken},
		{"9223372036854775808", 0, api.ErrToken},
		{"99999999999999999999999999", 0, api.ErrToken},
		{"x 'a", 2, api.ErrToken},
		{"'a''", 0, api.ErrToken},
		{"'", 0, api.ErrToken},
		{"ab #", 3, api.ErrToken},
		{"ab\x00", 2, api.ErrToken},
		{"\xe4", 0, api.ErrToken},
		{"a.b", 1, api.ErrToken},
		{"a !=", 2, api.ErrToken},
		{"\"a\"", 0, api.ErrToken},
		{" " + strings.Repeat("n", 33), 1, api.ErrLong},
		{strings.Repeat("n", 33) + " #", 0, api.ErrLong},
		{"# " + strings.Repeat("n", 33), 0, api.ErrToken},
		{strings.Repeat("#", api.MaxSql+1), 0, api.ErrLong},
		{strings.Repeat(" ", api.MaxSql) + "a", 0, api.ErrLong},
	} {
		if l, at, code := Lex(c.sql); code != c.code || at != c.at || l != nil {
			t.Errorf("Lex(%q) = %v, %d, %d", c.sql, l, at, code)
		}
	}
	if l, _, code := Lex(strings.Repeat(" ", api.MaxSql)); code != api.OK || len(l) != 1 || l[0].At != api.MaxSql {
		t.Error("as many bytes as may be")
	}
}

func TestReservedName(t *testing.T) {
	all := strings.Fields("and as by call create delete desc drop false from group having insert into is limit not null only or order select set true update values where")
	for _, s := range all {
		if !Reserved(s) || Name(s) || Reserved(strings.ToUpper(s)) {
			t.Errorf("%s", s)
		}
	}
	for _, s := range []string{"a", "_", "table", "view", "job", "time", "every", "count", "bucket", "int", "a1", "_9", "z_", strings.Repeat("n", 32)} {
		if Reserved(s) || !Name(s) {
			t.Errorf("%s", s)
		}
	}
	for _, s := range []string{"", "1a", "A", "aB", "Z", "aZ", "a-b", "a b", "ä", "a\x00", strings.Repeat("n", 33)} {
		if Reserved(s) || Name(s) {
			t.Errorf("%s", s)
		}
	}
}

// told is a token as it may be written.
func told(t api.Token) string {
	switch t.Kind {
	case api.TokInt:
		return strconv.FormatInt(t.Int, 10)
	case api.TokText:
		return "'" + strings.ReplaceAll(t.Text, "'", "''") + "'"
	}
	return t.Text
}

func TestWordsAreToldAsTheyWereLaid(t *testing.T) {
	r := rand.New(rand.NewSource(1))
	some := []api.Token{w("select", 0), w("a_9", 0), g("<", 0), g("<>", 0), g("-", 0), g(";", 0), x("", 0), x("it's -- A", 0), x("'", 0), n(0, 0), n(1<<63-1, 0)}
	blanks := []string{" ", "\n", "\t \r", " -- 'x\n", "--\n"}
	for range 2000 {
		var sql strings.Builder
		var want []api.Token
		for range r.Intn(9) {
			c := some[r.Intn(len(some))]
			sql.WriteString(" ") // a sign - is no comment's beginning
			for range r.Intn(2) {
				sql.WriteString(blanks[r.Intn(len(blanks))])
			}
			c.At = sql.Len()
			s := told(c)
			if c.Kind == api.TokWord && r.Intn(2) == 0 {
				s = strings.ToUpper(s)
			}
			sql.WriteString(s)
			want = append(want, c)
		}
		sql.WriteString(" ")
		want = append(want, e(sql.Len()))
		if l, _, code := Lex(sql.String()); code != api.OK || !slices.Equal(l, want) {
			t.Fatalf("Lex(%q) = %v, not %v", sql.String(), l, want)
		}
	}
}
