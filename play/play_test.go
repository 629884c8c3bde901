package play

import (
	"fmt"
	"math"
	"math/rand"
	"slices"
	"strings"
	"testing"

	"tideline/api"
)

const tableT = "CREATE TABLE t (time INT, v INT) TIME time EVERY 10"

func is(t *testing.T, what string, got, want any) {
	t.Helper()
	if fmt.Sprint(got) != fmt.Sprint(want) {
		t.Fatalf("%s: %v, not %v", what, got, want)
	}
}

// laid is commands as a text.
func laid(l []Cmd) string {
	var b strings.Builder
	for _, c := range l {
		fmt.Fprintf(&b, "%c %d %q\n", c.Op, c.Nums, c.Text)
	}
	return b.String()
}

func TestParse(t *testing.T) {
	for _, x := range []struct {
		text string
		want []Cmd
	}{
		{"", nil}, {"\n\n \t\r\n# x\n  #y z\n#", nil},
		{"sql SELECT  1 ", []Cmd{{Op: 's', Text: "SELECT  1 "}}}, {"sql", []Cmd{{Op: 's'}}}, {"sql ", []Cmd{{Op: 's'}}}, {"sql  ", []Cmd{{Op: 's', Text: " "}}}, {"\t sql\tsql\r", []Cmd{{Op: 's', Text: "sql\r"}}}, {"sql # x", []Cmd{{Op: 's', Text: "# x"}}},
		{"disk 64\n tick\t-5 \r\nfuse 0", []Cmd{{Op: 'd', Nums: []int{64}}, {Op: 't', Nums: []int{-5}}, {Op: 'f', Nums: []int{0}}}},
		{"start\nstart 1\nstart 1 -2  3", []Cmd{{Op: 'b'}, {Op: 'b', Nums: []int{1}}, {Op: 'b', Nums: []int{1, -2, 3}}}},
		{"run\nclock\nstate\nkill\nopen\n", []Cmd{{Op: 'r'}, {Op: 'c'}, {Op: 'S'}, {Op: 'k'}, {Op: 'o'}}},
		{"tick 4611686018427387904\ntick -4611686018427387904", []Cmd{{Op: 't', Nums: []int{1 << 62}}, {Op: 't', Nums: []int{-1 << 62}}}},
	} {
		l, line, code := Parse(x.text)
		if code != api.OK || line != 0 || laid(l) != laid(x.want) {
			t.Errorf("Parse(%q) = %s, %d, %d", x.text, laid(l), line, code)
		}
	}
}

func TestParseErrors(t *testing.T) {
	for _, x := range []struct {
		text string
		line int
		code api.Errno
	}{
		{"tick", 1, api.ErrLine}, {"tick 01", 1, api.ErrLine}, {"run 1", 1, api.ErrLine}, {"Run", 1, api.ErrLine}, {"run\n\n# x\nrunx\ntick", 4, api.ErrLine},
		{"tick 1 2", 1, api.ErrLine}, {"disk", 1, api.ErrLine}, {"fuse x", 1, api.ErrLine}, {"tick -0", 1, api.ErrLine}, {"tick -", 1, api.ErrLine}, {"tick +1", 1, api.ErrLine}, {"tick 1_0", 1, api.ErrLine}, {"tick 0x1", 1, api.ErrLine}, {"tick --1", 1, api.ErrLine}, {"tick -01", 1, api.ErrLine}, {"start 1 a", 1, api.ErrLine}, {"start 00", 1, api.ErrLine},
		{"tick 4611686018427387905", 1, api.ErrLine}, {"tick -4611686018427387905", 1, api.ErrLine}, {"tick 99999999999999999999999", 1, api.ErrLine},
		{"sqlx", 1, api.ErrLine}, {"sql\x00", 1, api.ErrLine}, {"x sql", 1, api.ErrLine}, {"run #", 1, api.ErrLine}, {"run\x0b", 1, api.ErrLine},
		{strings.Repeat("\n", api.MaxScript) + "x", 0, api.ErrLong}, {strings.Repeat("\n", api.MaxScript-1) + "x", api.MaxScript, api.ErrLine},
		{strings.Repeat("run\n# x\n", api.MaxSteps) + "run", 2*api.MaxSteps + 1, api.ErrLong}, {strings.Repeat("run\n", api.MaxSteps) + "\nx", api.MaxSteps + 2, api.ErrLong}, {strings.Repeat("run\n", api.MaxSteps-1) + "x\nrun\n", api.MaxSteps, api.ErrLine},
	} {
		l, line, code := Parse(x.text)
		if l != nil || line != x.line || code != x.code {
			t.Errorf("Parse(%.40q): %d, %d", x.text, line, code)
		}
		told, line, code := Run(x.text)
		if told != "" || line != x.line || code != x.code {
			t.Errorf("Run(%.40q): %.40q, %d, %d", x.text, told, line, code)
		}
	}
	if l, _, code := Parse(strings.Repeat("run\n", api.MaxSteps) + "# x\n"); code != api.OK || len(l) != api.MaxSteps {
		t.Errorf("as many as may be: %d", code)
	}
}

func TestPrint(t *testing.T) {
	for _, x := range []struct {
		l    []Cmd
		want string
		code api.Errno
	}{
		{nil, "", api.OK},
		{[]Cmd{{Op: 's', Text: " x "}, {Op: 's'}, {Op: 'd', Nums: []int{5}}, {Op: 'b'}, {Op: 'b', Nums: []int{-1, 1 << 62}}, {Op: 'S'}}, "sql  x \nsql \ndisk 5\nstart\nstart -1 4611686018427387904\nstate\n", api.OK},
		{[]Cmd{{Op: 'x'}}, "", api.ErrArg}, {[]Cmd{{}}, "", api.ErrArg}, {[]Cmd{{Op: 'd'}}, "", api.ErrArg}, {[]Cmd{{Op: 'd', Nums: []int{1, 2}}}, "", api.ErrArg}, {[]Cmd{{Op: 'r', Nums: []int{1}}}, "", api.ErrArg}, {[]Cmd{{Op: 's', Nums: []int{1}}}, "", api.ErrArg},
		{[]Cmd{{Op: 't', Nums: []int{1<<62 + 1}}}, "", api.ErrArg}, {[]Cmd{{Op: 'b', Nums: []int{0, math.MinInt}}}, "", api.ErrArg}, {[]Cmd{{Op: 'r', Text: "x"}}, "", api.ErrArg}, {[]Cmd{{Op: 's', Text: "a\nb"}}, "", api.ErrArg},
		{append(make([]Cmd, api.MaxSteps), Cmd{}), "", api.ErrArg}, {slices.Repeat([]Cmd{{Op: 'r'}}, api.MaxSteps+1), "", api.ErrLong}, {append(slices.Repeat([]Cmd{{Op: 'r'}}, api.MaxSteps+1), Cmd{}), "", api.ErrArg},
		{slices.Repeat([]Cmd{{Op: 'r'}}, api.MaxSteps), strings.Repeat("run\n", api.MaxSteps), api.OK},
		{[]Cmd{{Op: 's', Text: strings.Repeat("x", api.MaxScript-5)}}, "sql " + strings.Repeat("x", api.MaxScript-5) + "\n", api.OK}, {[]Cmd{{Op: 's', Text: strings.Repeat("x", api.MaxScript-4)}}, "", api.ErrLong},
	} {
		s, code := Print(x.l)
		if s != x.want || code != x.code {
			t.Errorf("Print(%.40s) = %.40q, %d", laid(x.l), s, code)
		}
		if code != api.OK {
			continue
		}
		l, line, code := Parse(s)
		if code != api.OK || line != 0 || laid(l) != laid(x.l) {
			t.Errorf("Parse of it: %d, %d", line, code)
		}
	}
}

func script(lines ...string) string { return strings.Join(lines, "\n") }

func TestRun(t *testing.T) {
	for _, x := range [][2]string{
		{"", ""},
		{script("clock", "disk 64", "clock", "disk 2"), "1 8\n2 0\n3 0\n  0\n4 1\n"},
		{script("disk 64", "sql "+tableT, "sql INSERT INTO t VALUES (3, 1), (12, 2)", "sql SELECT * FROM t"), "1 0\n2 0\n  0\n3 0\n  2\n4 0\n  2\n  time INT, v INT\n  3, 1\n  12, 2\n"},
		{script("sql SELEC", "tick 1", "run", "state", "kill", "open", "start", "fuse 3"), "1 8\n2 8\n3 8\n4 8\n5 8\n6 8\n7 8\n8 8\n"},
		{script("disk 0", "disk 4097", "disk -5", "disk 64", "disk 0", "clock"), "1 1\n2 1\n3 1\n4 0\n5 1\n6 0\n  0\n"},
		{script("disk 64", "sql", "sql SELEC", "tick -1", "tick 5", "clock", "sql SELECT NULL, 'it''s', TRUE AS b FROM t", "sql "+tableT, "sql SELECT NULL, 'it''s', TRUE AS b FROM t", "sql INSERT INTO t VALUES (1, NULL)", "sql SELECT NULL, 'it''s', TRUE AS b, v FROM t"),
			"1 0\n2 31\n3 31\n4 7\n5 0\n6 0\n  5\n7 41\n8 0\n  0\n9 0\n  0\n   TEXT,  TEXT, b BOOL\n10 0\n  1\n11 0\n  1\n   TEXT,  TEXT, b BOOL, v INT\n  NULL, 'it''s', TRUE, NULL\n"},
		{script("disk 64", "sql "+tableT, "fuse 1", "sql INSERT INTO t VALUES (1, 1)", "clock", "sql SELECT * FROM t", "state", "open", "clock", "start 0 0", "sql SELECT * FROM t", "kill", "run", "start", "fuse -1", "open", "clock"),
			"1 0\n2 0\n  0\n3 0\n4 9\n5 0\n  0\n6 9\n7 9\n8 9\n9 8\n10 0\n11 0\n  0\n  time INT, v INT\n12 0\n13 9\n14 0\n15 0\n16 0\n17 0\n  0\n"},
	} {
		if got, line, code := Run(x[0]); got != x[1] || line != 0 || code != api.OK {
			t.Errorf("Run(%q) = %q, %d, %d", x[0], got, line, code)
		}
	}
}

func TestState(t *testing.T) {
	const viewH = "CREATE VIEW h AS SELECT bucket(10, time) AS time, sum(v) AS s FROM t GROUP BY bucket(10, time)"
	got, _, code := Run(script("# the state", "disk 64", "sql "+tableT, "sql "+viewH, "sql CREATE JOB j REFRESH h FROM 100 TO 0 EVERY 10", "sql CREATE JOB i COMPRESS t AFTER 1 EVERY 7",
		"sql INSERT INTO t VALUES (3, 1), (12, 2), (25, 9223372036854775807), (26, 1)", "tick 20", "run", "run", "sql DELETE FROM t WHERE time = 25", "sql CALL refresh(h, 10, 20)", "tick 30", "run", "state"))
	want := script("1 0", "2 0", "  0", "3 0", "  0", "4 0", "  0", "5 0", "  0", "6 0", "  4", "7 0", "8 0", "  i 0 0", "  j 0 2", "9 0", "10 0", "  1", "11 0", "  0", "12 0", "13 0", "  i 0 0", "  j 0 1",
		"14 0", "  clock 30", "  table t 3", "  "+tableT, "  3, 1", "  12, 2", "  26, 1", "  view h 30 1 3", "  "+viewH, "  -80 30", "  0, 1", "  10, 2", "  20, 1",
		"  job i 37", "  CREATE JOB i COMPRESS t AFTER 1 EVERY 7", "  job j 40", "  CREATE JOB j REFRESH h FROM 100 TO 0 EVERY 10", "")
	is(t, "Run", []any{got, code}, []any{want, api.OK})
}

// The jobs that ran ahead of the power's going are told.
func TestRunWithoutPower(t *testing.T) {
	seen := map[string]int{}
	for fuse := range 20 {
		got, _, _ := Run(script("disk 64", "sql "+tableT, "sql CREATE JOB i COMPRESS t AFTER 1 EVERY 7", "sql CREATE JOB j DROP t AFTER 1 EVERY 7", fmt.Sprintf("fuse %d", fuse), "run"))
		i := strings.Index(got, "\n6 ")
		seen[got[i+1:]]++
	}
	for _, want := range []string{"6 9\n", "6 9\n  i 0 0\n", "6 0\n  i 0 0\n  j 0 0\n"} {
		if seen[want] == 0 {
			t.Errorf("%q is never told: %v", want, seen)
		}
	}
	if len(seen) != 3 {
		t.Errorf("%v", seen)
	}
}

// What is told of commands does not hang on those behind them, nor on how they are laid.
func TestWhatFollows(t *testing.T) {
	r := rand.New(rand.NewSource(1))
	some := []string{"disk 40", "disk 6", "disk 1", "sql " + tableT, "sql INSERT INTO t VALUES (1, 2)", "sql SELECT * FROM t", "sql SELEC", "tick 4", "tick 9", "run", "clock", "state", "kill", "open", "start", "start 4096 7 -1", "fuse 4", "fuse 0", "sql CREATE JOB j COMPRESS t AFTER 1 EVERY 2"}
	for range 200 {
		lines := []string{"disk 50"}
		for range r.Intn(25) {
			lines = append(lines, some[r.Intn(len(some))])
		}
		all, _, code := Run(script(lines...))
		again, _, _ := Run(script(lines...))
		is(t, "again", []any{again, code}, []any{all, api.OK})
		n := r.Intn(len(lines) + 1)
		part, _, _ := Run(script(lines[:n]...))
		if !strings.HasPrefix(all, part) {
			t.Fatalf("%q does not begin with %q", all, part)
		}
		l, _, _ := Parse(script(lines...))
		text, code := Print(l)
		told, _, _ := Run("# x\n\n" + text)
		is(t, "as it is told", []any{told, code}, []any{all, api.OK})
	}
}

func TestNothingIsShared(t *testing.T) {
	l := []Cmd{{Op: 'b', Nums: []int{1, 2}}}
	s, _ := Print(l)
	a, _, _ := Parse(s)
	a[0].Nums[0] = 9
	b, _, _ := Parse(s)
	is(t, "Parse", []any{b[0].Nums, l[0].Nums}, "[[1 2] [1 2]]")
}
