package exec

import (
	"slices"

	"tideline/api"
	"tideline/bound"
	"tideline/cagg"
	"tideline/chunk"
	"tideline/expr"
	"tideline/fault"
	"tideline/query"
	"tideline/span"
	"tideline/stale"
)

func column(cols []api.Column, name string) int {
	return slices.IndexFunc(cols, func(c api.Column) bool { return c.Name == name })
}

// fits throws what is wrong with an expression that a column gets.
func fits(x api.Expr, over []api.Column, c api.Column) {
	t, code := expr.Type(x, over)
	fault.Need(code)
	if t != api.Null && t != c.Type {
		fault.Need(api.ErrType)
	}
}

// note notes the times of rows of a table.
func (w *work) note(t api.Stmt, rows ...[]api.Value) {
	at := column(t.Cols, t.Time)
	var times []int64
	for _, r := range rows {
		times = append(times, r[at].Int)
	}
	fault.Need(stale.Note(w.b, t.Name, times))
}

func (w *work) insert(s api.Stmt) api.Result {
	t := w.table(s.Name)
	for _, l := range s.Rows {
		if len(l) != len(t.Cols) {
			fault.Need(api.ErrArg)
		}
		for i, x := range l {
			fits(x, nil, t.Cols[i])
		}
	}
	var rows [][]api.Value
	for _, l := range s.Rows {
		var r []api.Value
		for _, x := range l {
			v, code := expr.Eval(x, nil, nil)
			fault.Need(code)
			r = append(r, v)
		}
		rows = append(rows, r)
	}
	for _, r := range rows {
		fault.Need(chunk.Check(t, r))
	}
	for _, r := range rows {
		fault.Need(chunk.Put(w.b, t, r))
	}
	w.note(t, rows...)
	return api.Result{Count: int64(len(rows))}
}

// condition checks a Where over a table's columns.
func condition(l []api.Expr, cols []api.Column) {
	if len(l) > 1 {
		fault.Need(api.ErrArg)
	}
	for _, x := range l {
		t, code := expr.Type(x, cols)
		fault.Need(code)
		if t != api.Bool && t != api.Null {
			fault.Need(api.ErrType)
		}
	}
}

// lets is which times of a table, and which value of its Space, a condition lets be.
func lets(t api.Stmt, where []api.Expr) (api.Span, []api.Value) {
	s := bound.Span(where, t.Time)
	if t.Space != "" {
		if v, ok := bound.Value(where, t.Space); ok {
			return s, []api.Value{v}
		}
	}
	return s, nil
}

// least keeps the least error of some.
type least struct{ code api.Errno }

func (l *least) meet(code api.Errno) {
	if l.code == api.OK || code != api.OK && code < l.code {
		l.code = code
	}
}

// change changes the rows of which a condition is TRUE, and tells how many these are: turn says what one becomes (nothing: it goes).
func (w *work) change(t api.Stmt, where []api.Expr, turn func(row []api.Value) ([]api.Value, api.Errno)) int64 {
	s, v := lets(t, where)
	var wrong, wrongTurn least
	gone, come, code := chunk.Change(w.b, t, s, v, func(row []api.Value) ([]api.Value, bool) {
		yes, code := expr.True(where, t.Cols, row)
		wrong.meet(code)
		if !yes {
			return nil, false
		}
		next, code := turn(row)
		wrongTurn.meet(code)
		return next, code == api.OK
	})
	fault.Need(wrong.code)
	fault.Need(wrongTurn.code)
	fault.Need(code)
	w.note(t, gone...)
	w.note(t, come...)
	return int64(len(gone))
}

func (w *work) update(s api.Stmt) api.Result {
	t := w.table(s.Name)
	var at []int
	for _, x := range s.Sets {
		i := column(t.Cols, x.Name)
		if i < 0 {
			fault.Need(api.ErrName)
		}
		if slices.Contains(at, i) {
			fault.Need(api.ErrTwice)
		}
		fits(x.E, t.Cols, t.Cols[i])
		at = append(at, i)
	}
	condition(s.Where, t.Cols)
	return api.Result{Count: w.change(t, s.Where, func(row []api.Value) ([]api.Value, api.Errno) {
		next := slices.Clone(row)
		for k, x := range s.Sets {
			v, code := expr.Eval(x.E, t.Cols, row)
			if code != api.OK {
				return nil, code
			}
			next[at[k]] = v
		}
		return next, api.OK
	})}
}

func (w *work) remove(s api.Stmt) api.Result {
	t := w.table(s.Name)
	condition(s.Where, t.Cols)
	return api.Result{Count: w.change(t, s.Where, func(row []api.Value) ([]api.Value, api.Errno) { return nil, api.OK })}
}

func (w *work) read(s api.Stmt) api.Result {
	q := s.Query
	def, ok := w.c.Get(q.From)
	if !ok || def.Kind == api.StJob {
		fault.Need(api.ErrName)
	}
	cols := w.c.Columns(q.From)
	_, code := query.Check(q, cols)
	fault.Need(code)
	rows, code := w.source(def, q)
	fault.Need(code)
	r, code := query.Run(q, cols, rows)
	fault.Need(code)
	return r
}

// source is the rows that a query is run over.
func (w *work) source(def api.Stmt, q api.Query) ([][]api.Value, api.Errno) {
	if q.Only {
		return cagg.Stored(w.b, w.c, q.From)
	}
	if def.Kind == api.StTable {
		s, v := lets(def, q.Where)
		return chunk.Rows(w.b, def, s, v)
	}
	return cagg.Rows(w.b, w.c, q.From, []api.Span{bound.Span(q.Where, w.c.Time(q.From))})
}

// chunks is a table, and the time ahead of which its chunks are meant.
func (w *work) chunks(s api.Stmt) (api.Stmt, int64) {
	t := w.table(s.Name)
	switch {
	case s.To == api.Value{}:
		return t, api.MaxTime + api.MaxEvery
	case s.To.Kind != api.Int || s.To.Text != "":
		fault.Need(api.ErrArg)
	case !span.Time(s.To.Int):
		fault.Need(api.ErrRange)
	}
	return t, s.To.Int
}

func (w *work) compress(s api.Stmt) api.Result {
	t, before := w.chunks(s)
	fault.Need(chunk.Pack(w.b, t, before))
	return api.Result{}
}

func (w *work) decompress(s api.Stmt) api.Result {
	t, before := w.chunks(s)
	fault.Need(chunk.Unpack(w.b, t, before))
	return api.Result{}
}

func (w *work) dropChunks(s api.Stmt) api.Result {
	t, before := w.chunks(s)
	n, code := chunk.Drop(w.b, t, before)
	fault.Need(code)
	return api.Result{Count: n}
}
