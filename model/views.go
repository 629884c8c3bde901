package model

import (
	"slices"

	"tideline/api"
	"tideline/fault"
	"tideline/query"
	"tideline/span"
	"tideline/spans"
	"tideline/value"
)

// all is the span of all that may be asked for.
func all() []api.Span {
	return []api.Span{{From: api.MinTime - api.MaxEvery, To: api.MaxTime + api.MaxEvery}}
}

// whole is an end that has become a multiple of a width, in one of both ways.
func whole(t, n int64, way func(t, n int64) (int64, api.Errno)) int64 {
	t, code := way(t, n)
	fault.Need(code)
	return t
}

// kind throws what is no name of that kind, and is its definition else.
func (m *Model) kind(name string, kinds ...uint8) api.Stmt {
	s, ok := m.c.Get(name)
	if !ok || !slices.Contains(kinds, s.Kind) {
		fault.Need(api.ErrName)
	}
	return s
}

// timed are the rows whose value at a place is a time of a set.
func timed(rows [][]api.Value, at int, set []api.Span) [][]api.Value {
	var l [][]api.Value
	for _, r := range rows {
		if spans.Has(set, r[at].Int) {
			l = append(l, r)
		}
	}
	return l
}

// rows are those of a table, or a view, in real time.
func (m *Model) rows(name string, within []api.Span) [][]api.Value {
	s := m.kind(name, api.StTable, api.StView)
	if s.Kind == api.StTable {
		return timed(m.tables[name], column(s.Cols, s.Time), within)
	}
	n := m.c.Width(name)
	var wanted []api.Span
	for _, w := range within {
		if !span.Empty(w) {
			wanted = append(wanted, api.Span{From: whole(w.From, n, span.Ceil), To: whole(w.To, n, span.Ceil)})
		}
	}
	v := m.views[name]
	kept := timed(v.stored, 0, spans.And(wanted, v.fresh))
	return append(kept, m.reckoned(s, spans.Minus(wanted, v.fresh))...)
}

// reckoned are the rows that a view's query answers of its source's within these buckets.
func (m *Model) reckoned(s api.Stmt, buckets []api.Span) [][]api.Value {
	within := spans.And(buckets, all())
	if len(within) == 0 {
		return nil
	}
	r, code := query.Run(s.Query, m.c.Columns(s.Query.From), m.rows(s.Query.From, within))
	fault.Need(code)
	return r.Rows
}

// note tells the views of a table that rows changed at these times.
func (m *Model) note(table string, times []int64) {
	for _, name := range m.c.Views(table) {
		n := m.c.Width(name)
		var met []api.Span
		for _, t := range times {
			b, code := span.Bucket(t, n)
			fault.Need(code)
			met = append(met, b)
		}
		v := m.views[name]
		v.fresh = spans.Minus(v.fresh, met)
		m.views[name] = v
	}
}

// end is one of a window: a time, or none.
func end(v api.Value) (int64, bool) {
	if !value.Good(v) || v.Kind != api.Null && v.Kind != api.Int {
		fault.Need(api.ErrArg)
	}
	return v.Int, v.Kind == api.Int
}

func inTime(t int64, is bool) {
	if is && !span.Time(t) {
		fault.Need(api.ErrRange)
	}
}

// newest is the greatest time of a table's rows.
func (m *Model) newest(table string) (int64, bool) {
	s := m.kind(table, api.StTable)
	at := column(s.Cols, s.Time)
	newest, some := int64(0), false
	for _, r := range m.tables[table] {
		if !some || r[at].Int > newest {
			newest, some = r[at].Int, true
		}
	}
	return newest, some
}

func (m *Model) refresh(s api.Stmt) api.Result {
	def := m.kind(s.Name, api.StView)
	from, fromIs := end(s.From)
	to, toIs := end(s.To)
	inTime(from, fromIs)
	inTime(to, toIs)
	n := m.c.Width(s.Name)
	v := m.views[s.Name]
	chain := m.c.Chain(s.Name)
	w := api.Span{From: whole(api.MinTime, n, span.Floor), To: v.mark}
	if newest, some := m.newest(chain[len(chain)-1]); some {
		w.To = max(w.To, whole(newest, n, span.Floor)+n)
	}
	if fromIs {
		w.From = whole(from, n, span.Ceil)
	}
	if toIs {
		w.To = min(w.To, whole(to, n, span.Floor))
	}
	if span.Empty(w) {
		return api.Result{}
	}
	window := []api.Span{w}
	buckets := spans.Minus(window, v.fresh)
	now := m.reckoned(def, buckets)
	was := timed(v.stored, 0, buckets)
	v.stored = append(timed(v.stored, 0, spans.Minus(all(), buckets)), now...)
	v.fresh = spans.Or(v.fresh, window)
	v.mark = max(v.mark, w.To)
	m.views[s.Name] = v
	return api.Result{Count: missing(now, was) + missing(was, now)}
}

// missing is how many rows, as a multiset, others have not.
func missing(rows, others [][]api.Value) int64 {
	have := map[string]int64{}
	for _, r := range others {
		have[value.Line(r)]++
	}
	n := int64(0)
	for _, r := range rows {
		k := value.Line(r)
		have[k]--
		if have[k] < 0 {
			n++
		}
	}
	return n
}
