package job

import (
	"fmt"
	"math"
	"reflect"
	"strings"
	"testing"

	"tideline/api"
	"tideline/base"
	"tideline/catalog"
	"tideline/disk"
	"tideline/exec"
	"tideline/key"
	"tideline/parse"
	"tideline/print"
	"tideline/value"
)

func is(t *testing.T, what string, got, want any) {
	t.Helper()
	if fmt.Sprint(got) != fmt.Sprint(want) {
		t.Fatalf("%s: %v, not %v", what, got, want)
	}
}

type database struct {
	t *testing.T
	d *disk.Disk
	b *base.Base
	c *catalog.Catalog
}

func fresh(t *testing.T, n int, defs ...string) *database {
	t.Helper()
	d, _ := disk.New(n)
	b, code := base.Open(d)
	is(t, "Open", code, api.OK)
	x := &database{t, d, b, catalog.New()}
	for _, sql := range defs {
		x.do(sql)
	}
	return x
}

func (x *database) do(sql string) string {
	x.t.Helper()
	s, _, code := parse.Parse(sql)
	is(x.t, sql, code, api.OK)
	r, code := exec.Do(x.b, x.c, s, 20)
	is(x.t, sql, []any{code, x.b.Commit()}, []any{api.OK, api.OK})
	var l []string
	for _, row := range r.Rows {
		l = append(l, value.Line(row))
	}
	return strings.Join(l, "; ")
}

func (x *database) due(clock int64) []string {
	l, code := Due(x.b, x.c, clock)
	is(x.t, "Due", code, api.OK)
	return l
}

func (x *database) image() string {
	l, _ := x.b.Range(nil, nil)
	return fmt.Sprint(l)
}

const (
	tableT = "CREATE TABLE t (time INT, v INT) TIME time EVERY 10"
	viewH  = "CREATE VIEW h AS SELECT bucket(10, time) AS time, sum(v) AS s FROM t GROUP BY bucket(10, time)"
	jobJ   = "CREATE JOB j REFRESH h FROM 100 TO 0 EVERY 10"
	rows   = "INSERT INTO t VALUES (3, 1), (12, 2)"
)

func TestExamples(t *testing.T) {
	x := fresh(t, 100, tableT, viewH, jobJ, rows)
	is(t, "Due", []any{x.due(19), x.due(20)}, "[[] [j]]")
	j, _ := x.c.Get("j")
	s, code := Stmt(j, 20)
	text, _ := print.Print(s)
	is(t, "Stmt", []any{text, code}, []any{"CALL refresh(h, -80, 20)", api.OK})
	r, code := Run(x.b, x.c, "j", 20)
	is(t, "Run", []any{r, code}, []any{api.Ran{Name: "j", Count: 2}, api.OK})
	is(t, "Due", []any{x.due(29), x.due(30)}, "[[] [j]]")
	is(t, "stored", x.do("SELECT * FROM ONLY h"), "0, 1; 10, 2")
	r, code = Run(x.b, x.c, "x", 20)
	is(t, "Run", []any{r, code}, []any{api.Ran{}, api.ErrName})
}

func TestStmt(t *testing.T) {
	job := func(what uint8, a, b int64) api.Stmt {
		return api.Stmt{Kind: api.StJob, Name: "j", What: what, Of: "t", A: a, B: b, Every: 5}
	}
	for i, x := range []struct {
		j     api.Stmt
		clock int64
		want  string
		code  api.Errno
	}{
		{job(api.StRefresh, 5, 1), 0, "CALL refresh(t, -5, -1)", api.OK},
		{job(api.StRefresh, api.MaxEvery, 0), api.MaxTime, "CALL refresh(t, 4611684918915760127, 4611686018427387903)", api.OK},
		{job(api.StCompress, 5, 0), 7, "CALL compress(t, 2)", api.OK},
		{job(api.StDropChunks, 5, 0), 3, "CALL drop_chunks(t, -2)", api.OK},
		{job(api.StDecompress, 5, 0), 3, "", api.ErrArg}, {job(0, 5, 0), 3, "", api.ErrArg}, {api.Stmt{Kind: api.StRefresh, What: api.StRefresh}, 3, "", api.ErrArg}, {api.Stmt{}, 3, "", api.ErrArg},
		{job(api.StCompress, 5, 0), -1, "", api.ErrArg}, {job(api.StCompress, 5, 0), api.MaxTime + 1, "", api.ErrArg}, {job(api.StCompress, 5, 0), math.MinInt64, "", api.ErrArg},
		{job(api.StCompress, -1, 0), 3, "", api.ErrArg}, {job(api.StCompress, api.MaxEvery+1, 0), 3, "", api.ErrArg}, {job(api.StRefresh, 5, -1), 3, "", api.ErrArg}, {job(api.StCompress, 5, api.MaxEvery+1), 3, "", api.ErrArg},
	} {
		s, code := Stmt(x.j, x.clock)
		text, _ := print.Print(s)
		if text != x.want || code != x.code || code != api.OK && !reflect.DeepEqual(s, api.Stmt{}) {
			t.Errorf("%d: %s, %d", i, text, code)
		}
	}
}

func TestRun(t *testing.T) {
	x := fresh(t, 100, tableT, viewH, rows, "CREATE JOB c COMPRESS t AFTER 5 EVERY 7", "CREATE JOB d DROP t AFTER 15 EVERY 3", jobJ)
	is(t, "Due", x.due(20), "[c d j]")
	// What is in the base's transaction is aborted.
	x.b.Put([]byte("z"), nil)
	r, code := Run(x.b, x.c, "c", 25)
	is(t, "Run", []any{r, code, x.due(31), x.due(32)}, []any{api.Ran{Name: "c"}, api.OK, "[d j]", "[c d j]"})
	_, there, _ := x.b.Get([]byte("z"))
	is(t, "aborted", there, false)
	r, code = Run(x.b, x.c, "d", 25)
	is(t, "Run", []any{r, code, x.due(27), x.due(28)}, []any{api.Ran{Name: "d", Count: 1}, api.OK, "[j]", "[d j]"})
	is(t, "rows", x.do("SELECT * FROM t"), "12, 2")
	// A job may run that is not due, at any clock.
	r, code = Run(x.b, x.c, "d", 0)
	is(t, "Run", []any{r, code, x.due(2), x.due(3)}, []any{api.Ran{Name: "d"}, api.OK, "[]", "[d]"})
	for _, c := range []struct {
		name  string
		clock int64
		code  api.Errno
	}{{"x", -1, api.ErrName}, {"t", 0, api.ErrName}, {"h", 0, api.ErrName}, {"j", -1, api.ErrArg}, {"j", api.MaxTime + 1, api.ErrArg}} {
		was := x.image()
		r, code := Run(x.b, x.c, c.name, c.clock)
		is(t, "Run", []any{r, code, x.image() == was}, []any{api.Ran{}, c.code, true})
	}
	l, code := Due(nil, x.c, 0)
	l2, code2 := Due(x.b, nil, 0)
	r, code3 := Run(nil, x.c, "j", 0)
	r2, code4 := Run(x.b, nil, "j", 0)
	is(t, "nil", []any{l, code, l2, code2, r, code3, r2, code4}, []any{[]string(nil), api.ErrNil, []string(nil), api.ErrNil, api.Ran{}, api.ErrNil, api.Ran{}, api.ErrNil})
}

func TestWhatGoesWrong(t *testing.T) {
	x := fresh(t, 100, tableT, viewH, jobJ, "INSERT INTO t VALUES (3, 9223372036854775807), (4, 1), (12, 2)")
	r, code := Run(x.b, x.c, "j", 20)
	is(t, "Run", []any{r, code, x.due(29), x.due(30)}, []any{api.Ran{Name: "j", Code: api.ErrOver}, api.OK, "[]", "[j]"})
	is(t, "stored", x.do("SELECT * FROM ONLY h"), "")
	// Without power nothing is done, wherever it goes.
	for fuse := 0; ; fuse++ {
		x := fresh(t, 100, tableT, viewH, jobJ, rows)
		was := x.image()
		x.b.Abort()
		x.d.Fuse(fuse)
		r, code := Run(x.b, x.c, "j", 20)
		if code == api.OK {
			x.d.Restart(nil)
			x.b, _ = base.Open(x.d)
			is(t, "it lasts", []any{fuse > 1, r, x.due(29)}, []any{true, api.Ran{Name: "j", Count: 2}, "[]"})
			break
		}
		is(t, "Run", []any{r, code}, []any{api.Ran{}, api.ErrDead})
		_, code = Due(x.b, x.c, 20)
		is(t, "Due", code, api.ErrDead)
		x.d.Restart(nil)
		x.b, _ = base.Open(x.d)
		is(t, "the base", x.image(), was)
	}
}

func TestNoRoom(t *testing.T) {
	x := fresh(t, 40, tableT, "CREATE VIEW w AS SELECT bucket(1, time) AS time, v, count(*) AS n FROM t GROUP BY bucket(1, time), v", "CREATE JOB j REFRESH w FROM 10000 TO 0 EVERY 10")
	code := api.OK
	for i := 0; code == api.OK; i++ {
		s, _, _ := parse.Parse(fmt.Sprintf("INSERT INTO t VALUES (%d, %d)", i, i))
		_, code = exec.Do(x.b, x.c, s, 0)
		if code == api.OK {
			x.b.Commit()
		}
	}
	is(t, "INSERT", code, api.ErrFull)
	x.b.Abort()
	was := x.image()
	r, code := Run(x.b, x.c, "j", 9000)
	is(t, "Run", []any{r, code, x.image() == was, x.due(9000)}, []any{api.Ran{Name: "j", Code: api.ErrFull}, api.OK, true, "[j]"})
}

// What a statement did ahead of going wrong is not there; only the job's Next is.
func TestOnlyNextIsCommitted(t *testing.T) {
	x := fresh(t, 100, tableT, viewH, jobJ, rows, "CALL refresh(h, NULL, NULL)", "INSERT INTO t VALUES (3, 9223372036854775807)")
	_, code := x.b.Delete(nextKey("j"))
	was := x.image()
	x.b.Abort()
	r, code2 := Run(x.b, x.c, "j", 20)
	is(t, "Run", []any{r, code, code2, x.due(29), x.due(30)}, []any{api.Ran{Name: "j", Code: api.ErrOver}, api.OK, api.OK, "[]", "[j]"})
	x.b.Delete(nextKey("j"))
	is(t, "the base", x.image(), was)
}

func nextKey(name string) []byte {
	b, _ := key.Append(nil, api.Value{Kind: api.Int, Int: 10}, api.Value{Kind: api.Text, Text: name})
	return b
}
