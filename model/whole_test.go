package model

import (
	"fmt"
	"math/rand"
	"strings"
	"testing"

	"tideline/api"
	"tideline/disk"
	"tideline/engine"
)

// generator makes statements: most of them go well.
type generator struct{ r *rand.Rand }

func newGenerator(seed int64) *generator { return &generator{rand.New(rand.NewSource(seed))} }

func (g *generator) pick(l ...string) string { return l[g.r.Intn(len(l))] }

func (g *generator) num() string {
	switch g.r.Intn(30) {
	case 0:
		return "9223372036854775807"
	case 1:
		return "NULL"
	case 2:
		return "- 7"
	}
	return fmt.Sprint(g.r.Intn(60))
}

func (g *generator) time() string {
	if g.r.Intn(60) == 0 {
		return g.pick("NULL", "4611686018427387903", "4611686018427387904", "- 4611686018427387904", "'a'")
	}
	return fmt.Sprint(g.r.Intn(60))
}

func (g *generator) end() string {
	switch g.r.Intn(20) {
	case 0:
		return g.pick("4611686018427387903", "4611686018427387904", "-4611686018427387904", "-4611686018427387905", "-20")
	case 1, 2, 3, 4, 5:
		return "NULL"
	}
	return fmt.Sprint(g.r.Intn(70))
}

func (g *generator) text() string { return g.pick("'a'", "'b'", "'it''s'", "NULL", "''") }

func (g *generator) cond(depth int) string {
	if depth == 0 || g.r.Intn(3) == 0 {
		return g.pick("time < "+g.num(), g.num()+" <= time", "time = "+g.num(), "time > "+g.num(), "d = "+g.text(), g.text()+" = d", "v > "+g.num(), "d IS NULL", "v IS NOT NULL", "1 / v = 0", "v + 1 > 3", "NULL", "FALSE", "TRUE", "time", "x = 1", "NOT v = 2")
	}
	return "(" + g.cond(depth-1) + g.pick(" AND ", " AND ", " OR ") + g.cond(depth-1) + ")"
}

func (g *generator) where() string {
	if g.r.Intn(3) == 0 {
		return ""
	}
	return " WHERE " + g.cond(2)
}

// change is a statement that changes a table's rows: time, d, v.
func (g *generator) change(table string) string {
	row := func() string { return "(" + g.time() + ", " + g.text() + ", " + g.num() + ")" }
	switch g.r.Intn(8) {
	case 0:
		return "DELETE FROM " + table + " WHERE " + g.cond(1) + " AND " + g.cond(1)
	case 1:
		return "UPDATE " + table + " SET " + g.pick("v = v + 1", "v = 1 / (v - 3)", "time = time + 7", "d = 'c', v = 5", "time = "+g.time(), "v = x", "d = d, time = time") + " WHERE " + g.cond(2)
	case 2:
		return "INSERT INTO " + table + " VALUES " + row() + ", " + row() + ", " + row()
	}
	return "INSERT INTO " + table + " VALUES " + row()
}

// bulk puts many rows.
func (g *generator) bulk() string {
	var l []string
	for range 12 {
		l = append(l, fmt.Sprintf("(%d, '%s', %d)", g.r.Intn(3000), strings.Repeat(g.pick("a", "b"), g.r.Intn(64)), g.r.Intn(9)))
	}
	return "INSERT INTO t VALUES " + strings.Join(l, ", ")
}

func (g *generator) query(from string) string {
	only := g.pick("", "", "ONLY ")
	switch g.r.Intn(6) {
	case 0:
		return "SELECT d, count(*), sum(v), min(time) FROM " + only + from + g.where() + " GROUP BY d" + g.pick("", " HAVING count(*) > 1") + g.pick("", " ORDER BY count(*) DESC", " LIMIT 2")
	case 1:
		return "SELECT " + g.pick("v", "v + 1", "bucket(7, time)", "1 / v", "d, v", "x") + " FROM " + only + from + g.where() + g.pick("", " ORDER BY v DESC", " ORDER BY d, time LIMIT 3")
	case 2:
		return "SELECT avg(v), first(v, time), last(d, time), max(d) FROM " + only + from + g.where()
	}
	return "SELECT * FROM " + only + from + g.where()
}

func (g *generator) view(name string) string {
	w := g.pick("5", "10", "20", "7")
	from := g.pick("t", "t", "h", "k", "u", "x")
	agg := g.pick("sum(v)", "max(v)", "min(v)", "count(*)", "avg(v)", "first(v, time)", "last(v, time)")
	b := "bucket(" + w + ", time)"
	return "CREATE VIEW " + name + " AS SELECT " + b + " AS time, d, " + agg + " AS v FROM " + from + g.pick("", "", " WHERE "+g.cond(1)) + " GROUP BY " + b + ", d"
}

func (g *generator) statement() string {
	tables, views := []string{"t", "t", "t", "u"}, []string{"h", "k", "w"}
	switch g.r.Intn(24) {
	case 0:
		return "CREATE TABLE " + g.pick(tables...) + " (time INT, d TEXT, v INT) TIME time EVERY " + g.pick("10", "7", "30", "0") + g.pick("", " SPACE d INTO 3", " SPACE d INTO 16")
	case 1, 2:
		return g.view(g.pick(views...))
	case 3:
		return "CREATE JOB " + g.pick("i", "j") + g.pick(" REFRESH h FROM 50 TO 0", " REFRESH k FROM 30 TO 5", " COMPRESS t AFTER 10", " DROP t AFTER 30", " REFRESH h FROM 1 TO 2") + " EVERY " + g.pick("3", "10")
	case 4:
		if g.r.Intn(4) == 0 {
			return g.pick("DROP TABLE t", "DROP TABLE u", "DROP VIEW h", "DROP VIEW k", "DROP VIEW w", "DROP JOB j", "DROP VIEW t")
		}
	case 5, 6, 7:
		return "CALL refresh(" + g.pick(views...) + ", " + g.end() + ", " + g.end() + ")"
	case 8, 9:
		return "CALL " + g.pick("compress", "decompress") + "(" + g.pick(tables...) + ", " + g.end() + ")"
	case 10:
		if g.r.Intn(4) == 0 {
			return "CALL drop_chunks(" + g.pick(tables...) + ", " + g.end() + ")"
		}
	case 11, 12, 13, 14, 15:
		return g.query(g.pick("t", "h", "k", "w", "u", "h", "k"))
	case 16:
		return g.pick("", "SELECT", "#", "CALL x(t, 1)", "INSERT INTO t VALUES (1, 'a')", "INSERT INTO t VALUES (1, '"+strings.Repeat("x", 65)+"', 1)", "SELECT * FROM t LIMIT 0")
	}
	return g.change(g.pick(tables...))
}

// pair is an engine and a model that are told the same.
type pair struct {
	t *testing.T
	d *disk.Disk
	x *engine.Engine
	m *Model
}

func newPair(t *testing.T, pages int) *pair {
	t.Helper()
	d, _ := disk.New(pages)
	x, code := engine.Open(d)
	is(t, "Open", code, api.OK)
	return &pair{t, d, x, New()}
}

// begin makes a table and two views, in one of several ways.
func (p *pair) begin(g *generator) {
	p.t.Helper()
	for _, sql := range []string{"CREATE TABLE t (time INT, d TEXT, v INT) TIME time EVERY 10" + g.pick("", " SPACE d INTO 3"), g.view("h"), g.view("k"), g.view("h"), g.view("k")} {
		is(p.t, sql, told(p.x.Exec(sql)), told(p.m.Exec(sql)))
	}
}

func (p *pair) same(what string) {
	p.t.Helper()
	s, code := p.x.State()
	is(p.t, "State", code, api.OK)
	if a, b := fmt.Sprint(s), fmt.Sprint(p.m.State()); a != b {
		p.t.Fatalf("%s: it stands as\n%s\nnot\n%s", what, a, b)
	}
}

// act is what is done to an engine and a model alike; it tells what each answers.
type act struct {
	name   string
	engine func(x *engine.Engine) (string, api.Errno)
	model  func(m *Model) string
}

func (g *generator) act(clock int64) act {
	switch g.r.Intn(14) {
	case 0:
		now := clock + int64(g.r.Intn(6)) - 1
		return act{"tick",
			func(x *engine.Engine) (string, api.Errno) { c := x.Tick(now); return fmt.Sprint(int(c)), c },
			func(m *Model) string { return fmt.Sprint(int(m.Tick(now))) }}
	case 1:
		return act{"run",
			func(x *engine.Engine) (string, api.Errno) { l, c := x.Run(); return fmt.Sprint(l), c },
			func(m *Model) string { return fmt.Sprint(m.Run()) }}
	}
	return does(g.statement())
}

// does is the act of a statement.
func does(sql string) act {
	return act{sql,
		func(x *engine.Engine) (string, api.Errno) {
			r, c := x.Exec(sql)
			return told(r, c) + fmt.Sprint(r.Cols), c
		},
		func(m *Model) string { r, c := m.Exec(sql); return told(r, c) + fmt.Sprint(r.Cols) }}
}

// Whatever there is, each answer is the model's, and the engine stands as the model does.
func TestAnswersAreTheModels(t *testing.T) {
	for seed := range int64(30) {
		g := newGenerator(seed)
		p := newPair(t, 400)
		if seed%2 == 0 {
			p.begin(g)
		}
		well := 0
		for i := range 250 {
			a := g.act(p.x.Clock())
			got, code := a.engine(p.x)
			is(t, a.name, got, a.model(p.m))
			if code == api.OK {
				well++
			}
			if i%5 == 0 {
				p.same(a.name)
			}
		}
		p.same("the end")
		if seed%2 == 0 && well < 80 {
			t.Errorf("%d go well", well)
		}
	}
}

// Where there is no room, it stands as the model that did nothing.
func TestFull(t *testing.T) {
	full := 0
	for seed := range int64(12) {
		g := newGenerator(100 + seed)
		p := newPair(t, 12+4*int(seed))
		p.begin(g)
		for range 250 {
			a := g.act(p.x.Clock())
			if g.r.Intn(4) == 0 {
				a = does(g.bulk())
			}
			if a.name == "run" {
				due := p.m.Due()
				l, code := p.x.Run()
				is(t, "Run", []any{code, len(l)}, []any{api.OK, len(due)})
				for _, r := range l {
					if r.Code == api.ErrFull {
						full++
					} else {
						want, _ := p.m.RunOne(r.Name)
						is(t, "a job", r, want)
					}
				}
			} else if got, code := a.engine(p.x); code == api.ErrFull {
				full++
			} else {
				is(t, a.name, got, a.model(p.m))
			}
			p.same(a.name)
		}
	}
	if full < 50 {
		t.Errorf("%d did not fit", full)
	}
}

// Whenever the power goes, it stands as behind all that was answered, and perhaps as behind what was under way, whole.
func TestPower(t *testing.T) {
	for seed := range int64(20) {
		g := newGenerator(200 + seed)
		p := newPair(t, 100+20*int(seed))
		p.begin(g)
		for range 300 {
			if g.r.Intn(6) == 0 {
				p.d.Fuse(g.r.Intn(20))
			}
			a := g.act(p.x.Clock())
			got, code := a.engine(p.x)
			if code == api.OK && a.name == "run" && strings.Contains(got, "error 3 ") || code == api.ErrFull {
				// What did not fit was not done; of a run that is asked elsewhere.
				if code == api.ErrFull {
					continue
				}
				return
			}
			if !p.x.Dead() {
				is(t, a.name, got, a.model(p.m))
				continue
			}
			var fates []int
			for range g.r.Intn(9) {
				fates = append(fates, []int{0, -1, g.r.Intn(4097)}[g.r.Intn(3)])
			}
			p.restart(g, fates)
			p.settle(a, got)
		}
	}
}

// restart gives power again, which may go while the disk is opened.
func (p *pair) restart(g *generator, fates []int) {
	p.t.Helper()
	for {
		p.d.Restart(fates)
		p.d.Fuse(g.r.Intn(3))
		x, code := engine.Open(p.d)
		if code == api.OK {
			p.d.Fuse(-1)
			p.x = x
			break
		}
		is(p.t, "Open", code, api.ErrDead)
	}
	again, code := engine.Open(p.d)
	is(p.t, "Open", code, api.OK)
	a, _ := p.x.State()
	b, _ := again.State()
	is(p.t, "opened twice", b, a)
}

// settle lets the model do what was under way, if the engine stands so.
func (p *pair) settle(a act, got string) {
	p.t.Helper()
	s, code := p.x.State()
	is(p.t, "State", code, api.OK)
	now := fmt.Sprint(s)
	stands := func() bool { return now == fmt.Sprint(p.m.State()) }
	if a.name == "run" {
		for _, name := range p.m.Due() {
			if strings.Contains(got, "{"+name+" ") || !stands() {
				p.m.RunOne(name)
			}
		}
	} else if !stands() {
		a.model(p.m)
	}
	p.same(a.name)
}

// Packing changes no answer.
func TestPacking(t *testing.T) {
	g := newGenerator(7)
	p := newPair(t, 400)
	is(t, "CREATE", told(p.x.Exec("CREATE TABLE t (time INT, d TEXT, v INT) TIME time EVERY 10 SPACE d INTO 3")), "0")
	is(t, "CREATE", told(p.x.Exec("CREATE VIEW h AS SELECT bucket(10, time) AS time, d, sum(v) AS v FROM t GROUP BY bucket(10, time), d")), "0")
	for range 300 {
		p.x.Exec(g.change("t"))
		s, _ := p.x.State()
		q := g.query(g.pick("t", "h"))
		want := told(p.x.Exec(q))
		is(t, "pack", told(p.x.Exec("CALL "+g.pick("compress", "decompress")+"(t, "+g.pick("NULL", "30", "50")+")")), "0")
		is(t, q, told(p.x.Exec(q)), want)
		again, _ := p.x.State()
		is(t, "State", again, s)
	}
}

// What goes wrong is told alike, with the same one of several errors.
func TestErrorsAreTheModels(t *testing.T) {
	long, name := strings.Repeat("a", 65), strings.Repeat("a", 64)
	p := newPair(t, 400)
	both := func(want string, l ...string) {
		t.Helper()
		for _, sql := range l {
			got := told(p.x.Exec(sql))
			is(t, sql, []any{got, told(p.m.Exec(sql))}, []any{want, want})
			p.same(sql)
		}
	}
	both("0", "CREATE TABLE t (time INT, d TEXT, b BOOL, v INT) TIME time EVERY 10 SPACE d INTO 3", "CREATE VIEW h AS SELECT bucket(10, time) AS time, sum(v) AS s FROM t GROUP BY bucket(10, time)", "CREATE JOB j REFRESH h FROM 9 TO 1 EVERY 5")
	both("40", "DELETE FROM t WHERE v", "UPDATE t SET v = 1 WHERE d", "UPDATE t SET v = d")
	both("0", "DELETE FROM t WHERE 1 / 0 = 1", "UPDATE t SET v = 1 / 0", "SELECT 1 / 0 FROM t", "SELECT * FROM h WHERE 1 / s = 1")
	both("3", "INSERT INTO t VALUES (1, 'a', TRUE, 0), (2, '"+name+"', FALSE, 9223372036854775807), (3, NULL, NULL, NULL)")
	both("41", "DROP TABLE x", "DROP VIEW t", "DROP JOB h", "INSERT INTO x VALUES (1)", "INSERT INTO h VALUES (1, 1)", "UPDATE x SET v = 1", "UPDATE t SET x = 1", "UPDATE t SET v = x, v = 1", "UPDATE t SET v = 1 WHERE x", "DELETE FROM h", "SELECT * FROM x", "SELECT * FROM j", "SELECT 1 + 'a' FROM j", "SELECT x FROM h", "SELECT x, count(*) FROM t", "SELECT d FROM t GROUP BY d HAVING x", "SELECT d FROM t GROUP BY d ORDER BY x + time", "SELECT x OR first(first(y, count(*)), 1) AS c FROM t", "SELECT v FROM h GROUP BY s", "CALL refresh(t, NULL, NULL)", "CALL refresh(x, 4611686018427387904, NULL)", "CALL compress(h, NULL)", "CALL decompress(x, NULL)", "CALL drop_chunks(j, NULL)", "INSERT INTO t VALUES (time, 'a', TRUE, 1)")
	both("5", "CREATE TABLE t (time INT) TIME time EVERY 10", "UPDATE t SET v = 1, v = x", "UPDATE t SET v = 1, v = 1 WHERE x")
	both("6", "DROP TABLE t", "DROP VIEW h")
	both("1", "INSERT INTO t VALUES (1)", "INSERT INTO t VALUES (1 / 0, 'a', TRUE, 1), (1)", "INSERT INTO t VALUES (1, 'a', TRUE, 1, 1)")
	both("40", "INSERT INTO t VALUES (1, 'a', 1, 1)", "INSERT INTO t VALUES (1, 1, TRUE, 1), (1)", "UPDATE t SET v = 'a' WHERE x", "SELECT v FROM t WHERE v", "DELETE FROM t WHERE d")
	both("42", "UPDATE t SET v = sum(v)", "DELETE FROM t WHERE count(*) = 1", "SELECT v, count(*) FROM t", "SELECT time + x FROM t GROUP BY d")
	both("44", "INSERT INTO t VALUES (NULL, 'a', TRUE, 1), (1, 'a', TRUE, 1 / 0)", "UPDATE t SET v = v + 1 WHERE 1 / v = 0", "UPDATE t SET time = v, v = 1 / v", "UPDATE t SET v = 1 / v WHERE v = 0", "DELETE FROM t WHERE 1 / v = 1", "SELECT 1 / v FROM t")
	both("43", "INSERT INTO t VALUES (1, 'a', TRUE, 9223372036854775807 + 1), (1, 'a', TRUE, 1 / 0)", "UPDATE t SET v = 1 WHERE 1 / v = v + 1", "UPDATE t SET v = 1 / v, time = v + 1", "SELECT v + 1 FROM ONLY t")
	both("2", "INSERT INTO t VALUES (NULL, '"+long+"', TRUE, 1)", "UPDATE t SET d = '"+long+"', time = v")
	both("45", "INSERT INTO t VALUES (NULL, 'a', TRUE, 1), (1, '"+long+"', TRUE, 1)", "UPDATE t SET time = NULL", "UPDATE t SET time = v WHERE v IS NULL")
	both("7", "UPDATE t SET time = v", "INSERT INTO t VALUES (4611686018427387904, 'a', TRUE, 1)", "CALL refresh(h, 4611686018427387904, NULL)", "CALL refresh(h, NULL, -4611686018427387905)", "CALL compress(t, 4611686018427387904)", "CALL drop_chunks(t, -4611686018427387905)")
	both("1", "INSERT INTO t VALUES (4, NULL, NULL, 1)")
	both("43", "SELECT * FROM h", "CALL refresh(h, NULL, NULL)")
	both("0", "SELECT * FROM h WHERE time > 5", "CALL refresh(h, 10, NULL)", "DROP JOB j", "DROP VIEW h", "DROP TABLE t", "CREATE TABLE t (time INT) TIME time EVERY 7", "SELECT * FROM t")
}
