package engine

import (
	"fmt"
	"math"
	"math/rand"
	"reflect"
	"strings"
	"testing"

	"tideline/api"
	"tideline/base"
	"tideline/disk"
	"tideline/key"
	"tideline/value"
)

func is(t *testing.T, what string, got, want any) {
	t.Helper()
	if fmt.Sprint(got) != fmt.Sprint(want) {
		t.Fatalf("%s: %v, not %v", what, got, want)
	}
}

func fresh(t *testing.T, n int, script ...string) (*disk.Disk, *Engine) {
	t.Helper()
	d, _ := disk.New(n)
	x := open(t, d)
	for _, sql := range script {
		_, code := x.Exec(sql)
		is(t, sql, code, api.OK)
	}
	return d, x
}

func open(t *testing.T, d *disk.Disk) *Engine {
	t.Helper()
	x, code := Open(d)
	is(t, "Open", code, api.OK)
	return x
}

func told(r api.Result, code api.Errno) string {
	if code != api.OK {
		return fmt.Sprint(int(code))
	}
	l := []string{fmt.Sprint(r.Count)}
	for _, row := range r.Rows {
		l = append(l, value.Line(row))
	}
	return strings.Join(l, "; ")
}

func state(t *testing.T, x *Engine) string {
	t.Helper()
	s, code := x.State()
	is(t, "State", code, api.OK)
	return fmt.Sprint(s)
}

const (
	tableT = "CREATE TABLE t (time INT, v INT) TIME time EVERY 10"
	viewH  = "CREATE VIEW h AS SELECT bucket(10, time) AS time, sum(v) AS s FROM t GROUP BY bucket(10, time)"
	jobJ   = "CREATE JOB j REFRESH h FROM 100 TO 0 EVERY 10"
	rows   = "INSERT INTO t VALUES (3, 1), (12, 2)"
)

func TestExamples(t *testing.T) {
	d, x := fresh(t, 64)
	is(t, "Exec", []any{told(x.Exec("SELEC")), told(x.Exec("SELECT * FROM t")), x.Tick(-1)}, []any{"31", "41", api.ErrRange})
	for _, sql := range []string{tableT, viewH, rows, jobJ} {
		_, code := x.Exec(sql)
		is(t, sql, code, api.OK)
	}
	is(t, "Tick", x.Tick(20), api.OK)
	l, code := x.Run()
	is(t, "Run", []any{l, code}, []any{[]api.Ran{{Name: "j", Count: 2}}, api.OK})
	l, code = x.Run()
	is(t, "Run", []any{l, code}, []any{[]api.Ran(nil), api.OK})
	was := state(t, x)
	d.Kill()
	is(t, "dead", []any{x.Dead(), told(x.Exec("SELEC")), x.Tick(-1), x.Clock()}, []any{true, "9", api.ErrDead, 20})
	_, code = x.State()
	l, code2 := x.Run()
	is(t, "dead", []any{code, l, code2}, []any{api.ErrDead, []api.Ran(nil), api.ErrDead})
	d.Restart(nil)
	x = open(t, d)
	is(t, "State", state(t, x), was)
	is(t, "State", state(t, open(t, d)), was)
	is(t, "Clock", x.Clock(), 20)
}

func TestState(t *testing.T) {
	_, x := fresh(t, 64, "CREATE TABLE u (a TEXT, time INT) TIME time EVERY 5 SPACE a INTO 2", tableT, viewH, "CREATE VIEW b AS SELECT bucket(20, time) AS at, max(s) AS m FROM h GROUP BY bucket(20, time)", jobJ, rows, "INSERT INTO u VALUES ('b', 2), ('a', 9)", "CALL refresh(h, NULL, NULL)", "CALL refresh(h, 40, 60)", "INSERT INTO t VALUES (4, 9)", "CALL compress(u, NULL)", "CREATE JOB a DROP u AFTER 5 EVERY 1")
	x.Tick(7)
	s, code := x.State()
	least := int64(api.MinTime)
	want := api.State{
		Clock: 7,
		Tables: []api.Table{
			{Name: "t", Def: tableT, Rows: [][]api.Value{{{Kind: 2, Int: 3}, {Kind: 2, Int: 1}}, {{Kind: 2, Int: 4}, {Kind: 2, Int: 9}}, {{Kind: 2, Int: 12}, {Kind: 2, Int: 2}}}},
			{Name: "u", Def: "CREATE TABLE u (a TEXT, time INT) TIME time EVERY 5 SPACE a INTO 2", Rows: [][]api.Value{{{Kind: 3, Text: "a"}, {Kind: 2, Int: 9}}, {{Kind: 3, Text: "b"}, {Kind: 2, Int: 2}}}},
		},
		Views: []api.View{
			{Name: "b", Def: "CREATE VIEW b AS SELECT bucket(20, time) AS at, max(s) AS m FROM h GROUP BY bucket(20, time)", Mark: -4611686018427387920},
			{Name: "h", Def: viewH, Mark: 20, Fresh: []api.Span{{From: least - 6, To: 0}, {From: 10, To: 20}}, Rows: [][]api.Value{{{Kind: 2}, {Kind: 2, Int: 1}}, {{Kind: 2, Int: 10}, {Kind: 2, Int: 2}}}},
		},
		Jobs: []api.Job{{Name: "a", Def: "CREATE JOB a DROP u AFTER 5 EVERY 1"}, {Name: "j", Def: jobJ}},
	}
	is(t, "State", []any{s, code}, []any{want, api.OK})
}

func TestNil(t *testing.T) {
	var x *Engine
	r, code := x.Exec("SELEC")
	s, code2 := x.State()
	l, code3 := x.Run()
	is(t, "nil", []any{r, code, s, code2, l, code3, x.Tick(-1), x.Clock(), x.Dead()}, []any{api.Result{}, api.ErrNil, api.State{}, api.ErrNil, []api.Ran(nil), api.ErrNil, api.ErrNil, 0, false})
}

func TestOpenErrors(t *testing.T) {
	if x, code := Open(nil); x != nil || code != api.ErrNil {
		t.Error("no disk")
	}
	d, _ := disk.New(5)
	if x, code := Open(d); x != nil || code != api.ErrArg {
		t.Error("a small disk")
	}
	d.Kill()
	if x, code := Open(d); x != nil || code != api.ErrDead {
		t.Error("no power")
	}
	clock, _ := key.Append(nil, api.Value{Kind: api.Int, Int: 8})
	def, _ := key.Append(nil, api.Value{Kind: api.Int, Int: 1}, api.Value{Kind: api.Text, Text: "t"})
	for i, p := range [][2]string{{string(clock), ""}, {string(clock), "\x01"}, {string(clock), "\x00\x0a\x00"}, {string(clock), "\x00\x01"}, {string(def), "CREATE"}} {
		d, _ := disk.New(64)
		b, _ := base.Open(d)
		b.Put([]byte(p[0]), []byte(p[1]))
		b.Commit()
		if x, code := Open(d); x != nil || code != api.ErrBroken {
			t.Errorf("%d: %d", i, code)
		}
	}
}

func TestClock(t *testing.T) {
	d, x := fresh(t, 64)
	is(t, "Clock", x.Clock(), 0)
	for _, c := range []struct {
		now  int64
		code api.Errno
	}{{0, api.OK}, {5, api.OK}, {5, api.OK}, {4, api.ErrRange}, {math.MinInt64, api.ErrRange}, {api.MaxTime + 1, api.ErrRange}, {math.MaxInt64, api.ErrRange}, {api.MaxTime, api.OK}, {5, api.ErrRange}} {
		is(t, "Tick", x.Tick(c.now), c.code)
	}
	is(t, "Clock", []any{x.Clock(), open(t, d).Clock()}, []any{api.MaxTime, api.MaxTime})
	_, x = fresh(t, 64)
	x.Tick(33)
	x.Exec(tableT)
	x.Exec("CREATE JOB j COMPRESS t AFTER 5 EVERY 1")
	s, _ := x.State()
	is(t, "a job's Next is the clock", s.Jobs[0].Next, 33)
}

func TestWhatIsRefusedChangesNothing(t *testing.T) {
	_, x := fresh(t, 64, tableT, viewH, jobJ, rows)
	was := state(t, x)
	for _, sql := range []string{"SELEC", tableT, "CREATE TABLE u (a INT) TIME b EVERY 1", "DROP TABLE t", "INSERT INTO t VALUES (1, 1), (NULL, 1)", "INSERT INTO t VALUES (1, 1 / 0)", "UPDATE t SET time = 1 / (time - 3)", "UPDATE t SET time = NULL WHERE v = 2", "DELETE FROM t WHERE 1 / (v - 2) = 0", "CALL refresh(t, NULL, NULL)", "SELECT 1 / 0 FROM t"} {
		if r, code := x.Exec(sql); code == api.OK || !reflect.DeepEqual(r, api.Result{}) {
			t.Errorf("%s: %d", sql, code)
		}
		is(t, sql, state(t, x), was)
	}
}

func TestFull(t *testing.T) {
	_, x := fresh(t, 30, tableT, viewH)
	for i := 0; ; i++ {
		was := state(t, x)
		_, code := x.Exec(fmt.Sprintf("INSERT INTO t VALUES (%d, %d), (%d, 1), (%d, 2)", i, i, i+1000, i+2000))
		if code == api.OK {
			continue
		}
		is(t, "INSERT", []any{code, state(t, x)}, []any{api.ErrFull, was})
		break
	}
}

// Whenever the power goes, it stands as behind what was answered, and perhaps as behind what was under way.
func TestPower(t *testing.T) {
	r := rand.New(rand.NewSource(1))
	setup := []string{tableT, viewH, "CREATE VIEW k AS SELECT bucket(20, time) AS time, max(s) AS m FROM h GROUP BY bucket(20, time)", "CREATE JOB j REFRESH h FROM 100 TO 0 EVERY 10", "CREATE JOB c COMPRESS t AFTER 20 EVERY 7"}
	d, x := fresh(t, 100, setup...)
	_, shadow := fresh(t, 100, setup...)
	acts := func() func(x *Engine) string {
		n := r.Intn(60)
		sql := []string{
			fmt.Sprintf("INSERT INTO t VALUES (%d, %d), (%d, %d)", n, r.Intn(9), r.Intn(60), r.Intn(9)), fmt.Sprintf("DELETE FROM t WHERE time = %d", n), fmt.Sprintf("UPDATE t SET time = time + 3 WHERE time < %d", n),
			fmt.Sprintf("CALL refresh(h, %d, NULL)", n), "CALL refresh(k, NULL, NULL)", fmt.Sprintf("CALL compress(t, %d)", n), fmt.Sprintf("CALL drop_chunks(t, %d)", n/3), "SELECT * FROM k", "CREATE TABLE z (a INT) TIME a EVERY 5", "DROP TABLE z", "SELEC",
		}[r.Intn(11)]
		now := shadow.Clock() + int64(r.Intn(9))
		switch r.Intn(9) {
		case 0:
			return func(x *Engine) string { return fmt.Sprint(int(x.Tick(now))) }
		case 1:
			return func(x *Engine) string {
				l, code := x.Run()
				return fmt.Sprint(l, int(code))
			}
		}
		return func(x *Engine) string { return told(x.Exec(sql)) }
	}
	for range 250 {
		d.Fuse(r.Intn(25))
		for alive := true; alive; {
			act := acts()
			was := state(t, shadow)
			got := act(x)
			alive = !d.Dead()
			if alive {
				is(t, "an answer", got, act(shadow))
				continue
			}
			d.Restart([]int{r.Intn(4097), -1, r.Intn(4097), -r.Intn(2), r.Intn(4097), -1, -1})
			x = open(t, d)
			now := state(t, x)
			is(t, "opened twice", state(t, open(t, d)), now)
			if now == was {
				continue
			}
			// Of a run each job is whole by itself.
			if strings.HasPrefix(got, "[") {
				for _, name := range shadow.due() {
					if now != state(t, shadow) {
						shadow.runOne(name)
					}
				}
			} else {
				act(shadow)
			}
			is(t, "State", now, state(t, shadow))
		}
	}
}

// Without power each call says so, and the clock stays.
func TestCallsWithoutPower(t *testing.T) {
	done := map[string]int{}
	for fuse := range 24 {
		d, x := fresh(t, 64, tableT, viewH, rows, "CREATE JOB i COMPRESS t AFTER 1 EVERY 7", jobJ)
		x.Tick(5)
		was := state(t, x)
		d.Fuse(fuse)
		if code := x.Tick(9); code == api.ErrDead {
			is(t, "Tick", []any{x.Clock(), x.Dead()}, []any{5, true})
			done["tick"]++
			d.Restart(nil)
			is(t, "State", state(t, open(t, d)), was)
			continue
		}
		is(t, "Clock", x.Clock(), 9)
		was = state(t, x)
		d.Fuse(fuse - 4)
		r, code := x.Exec("DELETE FROM t WHERE time = 3")
		if code == api.ErrDead {
			is(t, "Exec", r, api.Result{})
			done["exec"]++
			d.Restart(nil)
			is(t, "State", state(t, open(t, d)), was)
			continue
		}
		is(t, "Exec", []any{r.Count, code}, []any{1, api.OK})
		d.Fuse(fuse - 8)
		l, code := x.Run()
		done[fmt.Sprintf("run %d %d", len(l), int(code))]++
		if code == api.ErrDead {
			d.Restart(nil)
			s, _ := open(t, d).State()
			is(t, "Next of the first one", s.Jobs[0].Next, []int64{0, 16}[len(l)])
		}
	}
	for _, k := range []string{"tick", "exec", "run 0 9", "run 1 9", "run 2 0"} {
		if done[k] == 0 {
			t.Errorf("%s is never met: %v", k, done)
		}
	}
	d, x := fresh(t, 64)
	is(t, "Tick", x.Tick(0), api.OK)
	is(t, "Clock", open(t, d).Clock(), 0)
}

// A tick that does not fit is not done.
func TestFullTick(t *testing.T) {
	full := 0
	for n := range 40 {
		_, x := fresh(t, 8, "CREATE TABLE t (time INT, d TEXT) TIME time EVERY 10")
		for code := api.OK; code == api.OK; {
			_, code = x.Exec(fmt.Sprintf("INSERT INTO t VALUES (5, '%s')", strings.Repeat("a", 20+n)))
		}
		was := state(t, x)
		if code := x.Tick(api.MaxTime); code == api.ErrFull {
			full++
			is(t, "it stands", []any{state(t, x), x.Clock()}, []any{was, 0})
		} else {
			is(t, "Tick", []any{code, x.Clock()}, []any{api.OK, api.MaxTime})
		}
	}
	if full == 0 {
		t.Error("it is never full")
	}
}
