package model

import (
	"slices"

	"tideline/api"
	"tideline/bound"
	"tideline/expr"
	"tideline/fault"
	"tideline/part"
	"tideline/query"
	"tideline/span"
)

func column(cols []api.Column, name string) int {
	return slices.IndexFunc(cols, func(c api.Column) bool { return c.Name == name })
}

func (m *Model) create(s api.Stmt) api.Result {
	fault.Need(m.c.Add(s))
	switch s.Kind {
	case api.StTable:
		m.tables[s.Name] = nil
	case api.StView:
		m.views[s.Name] = view{mark: whole(api.MinTime, m.c.Width(s.Name), span.Floor)}
	case api.StJob:
		m.next[s.Name] = m.clock
	}
	return api.Result{}
}

func (m *Model) drop(s api.Stmt) api.Result {
	fault.Need(m.c.Drop(s.What, s.Name))
	delete(m.tables, s.Name)
	delete(m.views, s.Name)
	delete(m.next, s.Name)
	return api.Result{}
}

// check is what is wrong with a row of a table.
func check(t api.Stmt, row []api.Value) api.Errno {
	for i, v := range row {
		if v.Kind != api.Null && v.Kind != t.Cols[i].Type {
			return api.ErrType
		}
		if len(v.Text) > api.MaxText {
			return api.ErrLong
		}
	}
	time := row[column(t.Cols, t.Time)]
	if time.Kind == api.Null {
		return api.ErrNull
	}
	if !span.Time(time.Int) {
		return api.ErrRange
	}
	return api.OK
}

// goes throws what is wrong with a type that must go with another one.
func goes(t uint8, code api.Errno, with uint8) {
	fault.Need(code)
	if t != api.Null && t != with {
		fault.Need(api.ErrType)
	}
}

// come puts rows to a table, in the place of others, and notes the times of both.
func (m *Model) come(t api.Stmt, stay, gone, come [][]api.Value) {
	m.tables[t.Name] = append(slices.Clone(stay), come...)
	at := column(t.Cols, t.Time)
	var times []int64
	for _, l := range [2][][]api.Value{gone, come} {
		for _, r := range l {
			times = append(times, r[at].Int)
		}
	}
	m.note(t.Name, times)
}

func (m *Model) insert(s api.Stmt) api.Result {
	t := m.kind(s.Name, api.StTable)
	for _, l := range s.Rows {
		if len(l) != len(t.Cols) {
			fault.Need(api.ErrArg)
		}
		for i, x := range l {
			kind, code := expr.Type(x, nil)
			goes(kind, code, t.Cols[i].Type)
		}
	}
	var rows [][]api.Value
	for _, l := range s.Rows {
		row := make([]api.Value, len(l))
		for i, x := range l {
			v, code := expr.Eval(x, nil, nil)
			fault.Need(code)
			row[i] = v
		}
		rows = append(rows, row)
	}
	for _, r := range rows {
		fault.Need(check(t, r))
	}
	m.come(t, m.tables[t.Name], nil, rows)
	return api.Result{Count: int64(len(rows))}
}

// worst is the least error of some.
func worst(l []api.Errno) api.Errno {
	out := api.OK
	for _, code := range l {
		if out == api.OK || code != api.OK && code < out {
			out = code
		}
	}
	return out
}

// change changes the rows of which a condition is TRUE: turn says what one becomes (nothing: it goes).
func (m *Model) change(t api.Stmt, where []api.Expr, turn func(row []api.Value) ([]api.Value, api.Errno)) api.Result {
	if len(where) > 1 {
		fault.Need(api.ErrArg)
	}
	for _, x := range where {
		kind, code := expr.Type(x, t.Cols)
		goes(kind, code, api.Bool)
	}
	var stay, gone, come [][]api.Value
	var wrong []api.Errno
	for _, r := range m.tables[t.Name] {
		yes, code := expr.True(where, t.Cols, r)
		wrong = append(wrong, code)
		if yes {
			gone = append(gone, r)
		} else {
			stay = append(stay, r)
		}
	}
	fault.Need(worst(wrong))
	for _, r := range gone {
		next, code := turn(r)
		wrong = append(wrong, code)
		if len(next) > 0 {
			come = append(come, next)
		}
	}
	fault.Need(worst(wrong))
	for _, r := range come {
		wrong = append(wrong, check(t, r))
	}
	fault.Need(worst(wrong))
	m.come(t, stay, gone, come)
	return api.Result{Count: int64(len(gone))}
}

func (m *Model) update(s api.Stmt) api.Result {
	t := m.kind(s.Name, api.StTable)
	place := map[string]int{}
	for _, x := range s.Sets {
		i := column(t.Cols, x.Name)
		if i < 0 {
			fault.Need(api.ErrName)
		}
		if _, ok := place[x.Name]; ok {
			fault.Need(api.ErrTwice)
		}
		kind, code := expr.Type(x.E, t.Cols)
		goes(kind, code, t.Cols[i].Type)
		place[x.Name] = i
	}
	return m.change(t, s.Where, func(row []api.Value) ([]api.Value, api.Errno) {
		next := slices.Clone(row)
		for _, x := range s.Sets {
			v, code := expr.Eval(x.E, t.Cols, row)
			if code != api.OK {
				return nil, code
			}
			next[place[x.Name]] = v
		}
		return next, api.OK
	})
}

func (m *Model) remove(s api.Stmt) api.Result {
	t := m.kind(s.Name, api.StTable)
	return m.change(t, s.Where, func(row []api.Value) ([]api.Value, api.Errno) { return nil, api.OK })
}

func (m *Model) read(s api.Stmt) api.Result {
	q := s.Query
	def := m.kind(q.From, api.StTable, api.StView)
	cols := m.c.Columns(q.From)
	_, code := query.Check(q, cols)
	fault.Need(code)
	var rows [][]api.Value
	switch {
	case def.Kind == api.StTable:
		rows = m.tables[q.From]
	case q.Only:
		rows = m.views[q.From].stored
	default:
		rows = m.rows(q.From, []api.Span{bound.Span(q.Where, m.c.Time(q.From))})
	}
	r, code := query.Run(q, cols, rows)
	fault.Need(code)
	return r
}

// before is a table, and the time ahead of which its chunks are meant.
func (m *Model) before(s api.Stmt) (api.Stmt, int64) {
	t := m.kind(s.Name, api.StTable)
	at, is := end(s.To)
	inTime(at, is)
	if !is {
		at = api.MaxTime + api.MaxEvery
	}
	return t, at
}

// ended tells whether the chunk of a row ends at, or before, a time.
func ended(t api.Stmt, row []api.Value, before int64) bool {
	return whole(row[column(t.Cols, t.Time)].Int, t.Every, span.Floor)+t.Every <= before
}

// compress changes nothing; but a chunk may have too many rows.
func (m *Model) compress(s api.Stmt) api.Result {
	t, before := m.before(s)
	rows := map[[2]int64]int64{}
	at, space := column(t.Cols, t.Time), column(t.Cols, t.Space)
	for _, r := range m.tables[t.Name] {
		if !ended(t, r, before) {
			continue
		}
		chunk := [2]int64{whole(r[at].Int, t.Every, span.Floor)}
		if space >= 0 {
			chunk[1], _ = part.Of(r[space], t.Parts)
		}
		rows[chunk]++
		if rows[chunk] > api.MaxRows {
			fault.Need(api.ErrLong)
		}
	}
	return api.Result{}
}

func (m *Model) decompress(s api.Stmt) api.Result {
	m.before(s)
	return api.Result{}
}

func (m *Model) dropChunks(s api.Stmt) api.Result {
	t, before := m.before(s)
	was := m.tables[t.Name]
	var stay [][]api.Value
	for _, r := range was {
		if !ended(t, r, before) {
			stay = append(stay, r)
		}
	}
	m.tables[t.Name] = stay
	return api.Result{Count: int64(len(was) - len(stay))}
}
