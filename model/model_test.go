package model

import (
	"fmt"
	"math"
	"reflect"
	"strings"
	"testing"

	"tideline/api"
	"tideline/value"
)

func is(t *testing.T, what string, got, want any) {
	t.Helper()
	if fmt.Sprint(got) != fmt.Sprint(want) {
		t.Fatalf("%s: %v, not %v", what, got, want)
	}
}

// told is a result, or an error, as a text.
func told(r api.Result, code api.Errno) string {
	if code != api.OK {
		if !reflect.DeepEqual(r, api.Result{}) {
			return "a result beside an error"
		}
		return fmt.Sprint(int(code))
	}
	l := []string{fmt.Sprint(r.Count)}
	for _, row := range r.Rows {
		l = append(l, value.Line(row))
	}
	return strings.Join(l, "; ")
}

func script(t *testing.T, m *Model, steps ...string) {
	t.Helper()
	for i := 0; i < len(steps); i += 2 {
		if got := told(m.Exec(steps[i])); got != steps[i+1] {
			t.Fatalf("%s: %s, not %s", steps[i], got, steps[i+1])
		}
	}
}

const (
	tableT = "CREATE TABLE t (time INT, v INT) TIME time EVERY 10"
	viewH  = "CREATE VIEW h AS SELECT bucket(10, time) AS time, sum(v) AS s FROM t GROUP BY bucket(10, time)"
	viewK  = "CREATE VIEW k AS SELECT bucket(20, time) AS time, max(s) AS m FROM h GROUP BY bucket(20, time)"
	jobJ   = "CREATE JOB j REFRESH h FROM 100 TO 0 EVERY 10"
)

func TestExamples(t *testing.T) {
	m := New()
	script(t, m,
		"SELEC", "31", "SELECT * FROM t", "41", "SELECT '", "30",
		tableT, "0", tableT, "5",
		"INSERT INTO t VALUES (3, 1), (12, 2)", "2",
		viewH, "0",
		"SELECT * FROM h", "2; 0, 1; 10, 2",
		"SELECT * FROM ONLY h", "0",
		"CALL refresh(h, NULL, 10)", "1",
		"SELECT * FROM ONLY h", "1; 0, 1",
		"INSERT INTO t VALUES (4, 5)", "1",
		"SELECT * FROM h", "2; 0, 6; 10, 2",
		"SELECT * FROM ONLY h", "1; 0, 1",
		"CALL refresh(h, NULL, NULL)", "3",
		"CALL refresh(h, NULL, NULL)", "0",
		viewK, "0",
		"SELECT * FROM k", "1; 0, 6",
		"CALL drop_chunks(t, 10)", "2",
		"SELECT * FROM h", "2; 0, 6; 10, 2",
		"INSERT INTO t VALUES (5, 1)", "1",
		"SELECT * FROM h", "2; 0, 1; 10, 2",
		"UPDATE t SET time = time + 20 WHERE time = 12", "1",
		"SELECT * FROM h", "2; 0, 1; 30, 2",
		"CALL compress(t, NULL)", "0",
		"CALL decompress(t, 100)", "0",
		"DELETE FROM t WHERE time = 5", "1",
		"SELECT * FROM t", "1; 32, 2",
		"UPDATE t SET v = 1 / (v - 1), v = 2", "5",
		"UPDATE t SET v = 1 / (v - 2)", "44",
		"INSERT INTO t VALUES (NULL, 1)", "45", "INSERT INTO t VALUES (1)", "1", "DELETE FROM h", "41", "DROP TABLE t", "6", "DROP VIEW k", "0",
		"CALL refresh(t, NULL, NULL)", "41", "CALL refresh(h, 4611686018427387904, NULL)", "7", "CALL compress(h, NULL)", "41", "CALL drop_chunks(t, 4611686018427387904)", "7",
	)
}

func TestClockAndJobs(t *testing.T) {
	m := New()
	script(t, m, tableT, "0", viewH, "0", "INSERT INTO t VALUES (3, 1), (12, 2)", "2", jobJ, "0", "CREATE JOB c COMPRESS t AFTER 5 EVERY 7", "0")
	for _, c := range []struct {
		now  int64
		code api.Errno
	}{{-1, api.ErrRange}, {math.MinInt64, api.ErrRange}, {0, api.OK}, {20, api.OK}, {19, api.ErrRange}, {api.MaxTime + 1, api.ErrRange}, {20, api.OK}} {
		is(t, "Tick", m.Tick(c.now), c.code)
	}
	is(t, "Due", m.Due(), "[c j]")
	r, code := m.RunOne("j")
	is(t, "RunOne", []any{r, code, m.Due()}, []any{api.Ran{Name: "j", Count: 2}, api.OK, "[c]"})
	r, code = m.RunOne("x")
	is(t, "RunOne", []any{r, code}, []any{api.Ran{}, api.ErrName})
	r, code = m.RunOne("t")
	is(t, "RunOne", []any{r, code}, []any{api.Ran{}, api.ErrName})
	is(t, "Run", []any{m.Run(), m.Due(), m.Run()}, "[[{c error 0 0}] [] []]")
	s := m.State()
	is(t, "Next", []any{s.Jobs[0].Next, s.Jobs[1].Next, s.Clock}, "[27 30 20]")
	script(t, m, "INSERT INTO t VALUES (3, 9223372036854775807)", "1")
	m.Tick(30)
	is(t, "Run", m.Run(), "[{c error 0 0} {j error 43 0}]")
	is(t, "Next", m.State().Jobs[1].Next, 40)
	is(t, "Tick", m.Tick(api.MaxTime), api.OK)
}

func TestState(t *testing.T) {
	m := New()
	script(t, m, tableT, "0", viewH, "0", viewK, "0", jobJ, "0", "INSERT INTO t VALUES (12, 2), (3, 1)", "2", "CALL refresh(h, NULL, NULL)", "2", "INSERT INTO t VALUES (4, 9)", "1")
	m.Tick(7)
	num := func(l ...int64) (row []api.Value) {
		for _, n := range l {
			row = append(row, api.Value{Kind: api.Int, Int: n})
		}
		return row
	}
	want := api.State{
		Clock:  7,
		Tables: []api.Table{{Name: "t", Def: tableT, Rows: [][]api.Value{num(3, 1), num(4, 9), num(12, 2)}}},
		Views: []api.View{
			{Name: "h", Def: viewH, Mark: 20, Fresh: []api.Span{{From: api.MinTime - 6, To: 0}, {From: 10, To: 20}}, Rows: [][]api.Value{num(0, 1), num(10, 2)}},
			{Name: "k", Def: viewK, Mark: api.MinTime - 16},
		},
		Jobs: []api.Job{{Name: "j", Def: jobJ}},
	}
	is(t, "State", m.State(), want)
	// What is refused changes nothing; what is handed out is new.
	for _, sql := range []string{"SELEC", "INSERT INTO t VALUES (1, 1), (NULL, 1)", "UPDATE t SET time = v / (v - 2)", "DELETE FROM t WHERE 1 / (v - 2) = 0", "CREATE VIEW h AS SELECT * FROM t", "DROP TABLE t"} {
		if _, code := m.Exec(sql); code == api.OK {
			t.Errorf("%s goes well", sql)
		}
		is(t, sql, m.State(), want)
	}
	s := m.State()
	s.Tables[0].Rows[0][0].Int, s.Views[0].Fresh[0].To, s.Views[0].Rows[0][0].Int = 99, 99, 99
	r, _ := m.Exec("SELECT * FROM ONLY h")
	r.Rows[0][0].Int = 99
	is(t, "State", m.State(), want)
	c := m.Clone()
	script(t, c, "DELETE FROM t", "3", "CALL refresh(h, NULL, NULL)", "2", "DROP JOB j", "0")
	c.Tick(9)
	is(t, "State", m.State(), want)
	c = m.Clone()
	was := c.State()
	script(t, m, "DELETE FROM t", "3", "CALL refresh(h, NULL, NULL)", "2", "DROP JOB j", "0", "DROP VIEW k", "0")
	is(t, "State", c.State(), was)
}

func TestNil(t *testing.T) {
	var m *Model
	r, code := m.Exec("SELEC")
	n, code2 := m.RunOne("j")
	is(t, "nil", []any{r, code, n, code2, m.Tick(-1), m.Due(), m.Run(), m.State(), m.Clone() == nil}, []any{api.Result{}, api.ErrNil, api.Ran{}, api.ErrNil, api.ErrNil, []string(nil), []api.Ran(nil), api.State{}, true})
	m = New()
	is(t, "empty", []any{m.State(), m.Due(), m.Run()}, []any{api.State{}, []string(nil), []api.Ran(nil)})
}

// What is fresh is stored as it would be reckoned now; refreshing all of a chain makes what is stored what is read.
func TestWhatFollows(t *testing.T) {
	m := New()
	script(t, m, "CREATE TABLE t (time INT, d TEXT, v INT) TIME time EVERY 10 SPACE d INTO 2", "0",
		"CREATE VIEW h AS SELECT bucket(5, time) AS time, d, sum(v) AS s FROM t GROUP BY bucket(5, time), d", "0", "CREATE VIEW k AS SELECT bucket(10, time) AS time, max(s) AS m FROM h GROUP BY bucket(10, time)", "0")
	g := newGenerator(1)
	for range 1500 {
		sql := g.change("t")
		m.Exec(sql)
		if g.r.Intn(3) == 0 {
			m.Exec(fmt.Sprintf("CALL refresh(%s, %s, %s)", g.pick("h", "k"), g.end(), g.end()))
		}
		for _, name := range []string{"h", "k"} {
			v := m.views[name]
			again := m.Clone()
			again.views[name] = view{mark: v.mark}
			l := again.rows(name, v.fresh)
			is(t, "what is fresh of "+name, lines(timed(v.stored, 0, v.fresh)), lines(l))
		}
	}
	m.Exec("DELETE FROM t WHERE v > 100")
	for _, name := range []string{"h", "k"} {
		m.Exec("CALL refresh(" + name + ", NULL, NULL)")
		is(t, "a second one", told(m.Exec("CALL refresh("+name+", NULL, NULL)")), "0")
		below := fmt.Sprintf(" WHERE time < %d", m.views[name].mark)
		is(t, "stored", told(m.Exec("SELECT * FROM ONLY "+name+below)), told(m.Exec("SELECT * FROM "+name+below)))
	}
}

func lines(rows [][]api.Value) string {
	var l []string
	for _, r := range value.Sort(rows) {
		l = append(l, value.Line(r))
	}
	return strings.Join(l, "; ")
}
