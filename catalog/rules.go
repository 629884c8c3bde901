package catalog

import (
	"tideline/agg"
	"tideline/api"
	"tideline/expr"
	"tideline/query"
	"tideline/span"
)

// unlike tells whether no two columns have one name.
func unlike(cols []api.Column) bool {
	seen := map[string]int{}
	for i, c := range cols {
		seen[c.Name] = i
	}
	return len(seen) == len(cols)
}

func find(cols []api.Column, name string) (api.Column, bool) {
	for _, c := range cols {
		if c.Name == name {
			return c, true
		}
	}
	return api.Column{}, false
}

func has(cols []api.Column, name string) bool {
	_, ok := find(cols, name)
	return ok
}

func (c *Catalog) table(s api.Stmt, d *def) api.Errno {
	d.cols, d.time = append([]api.Column(nil), s.Cols...), s.Time
	return first(
		unless(func() bool { return len(s.Cols) <= api.MaxCols }, api.ErrLong),
		unless(func() bool { return unlike(s.Cols) }, api.ErrTwice),
		unless(func() bool { return has(s.Cols, s.Time) && (s.Space == "" || has(s.Cols, s.Space)) }, api.ErrName),
		unless(func() bool { t, _ := find(s.Cols, s.Time); return t.Type == api.Int }, api.ErrType),
		unless(func() bool {
			return span.Width(s.Every) && (s.Space == "" || s.Parts >= 1 && s.Parts <= api.MaxParts)
		}, api.ErrArg),
	)
}

func (c *Catalog) job(s api.Stmt, d *def) api.Errno {
	kind := api.StTable
	if s.What == api.StRefresh {
		kind = api.StView
	}
	d.source = s.Of
	return first(
		unless(func() bool { _, ok := c.of(s.Of, kind); return ok }, api.ErrName),
		unless(func() bool {
			return s.A <= api.MaxEvery && s.B <= api.MaxEvery && (s.What != api.StRefresh || s.A > s.B) && span.Width(s.Every)
		}, api.ErrArg),
	)
}

// short tells whether no text in an expression is too long.
func short(x api.Expr) bool {
	for _, a := range x.Args {
		if !short(a) {
			return false
		}
	}
	return len(x.Value.Text) <= api.MaxText
}

func (c *Catalog) view(s api.Stmt, d *def) api.Errno {
	q := s.Query
	d.source = q.From
	var source *def
	return first(
		func() api.Errno {
			var ok bool
			if source, ok = c.of(q.From, api.StTable, api.StView); !ok {
				return api.ErrName
			}
			return api.OK
		},
		unless(func() bool { return c.roomFor(q) }, api.ErrLong),
		func() (code api.Errno) { d.cols, code = query.Check(q, source.cols); return code },
		unless(func() bool { return !q.Only && len(q.Having) == 0 && len(q.Order) == 0 && len(q.Limit) == 0 }, api.ErrArg),
		unless(func() bool { return bucketed(q, source) && grouped(q) && aggregates(q) }, api.ErrArg),
		unless(func() bool { return unlike(d.cols) }, api.ErrTwice),
		unless(func() bool { return typed(d.cols) }, api.ErrType),
		func() api.Errno { d.time, d.width = d.cols[0].Name, q.Items[0].E.Width; return api.OK },
	)
}

func (c *Catalog) roomFor(q api.Query) bool {
	for _, i := range q.Items {
		if !short(i.E) {
			return false
		}
	}
	return len(q.Items) <= api.MaxCols && len(c.Chain(q.From)) < api.MaxChain
}

// bucketed tells whether a view's first item is a bucket of the source's time, of whole buckets of it.
func bucketed(q api.Query, source *def) bool {
	if len(q.Items) == 0 || q.Items[0].As == "" {
		return false
	}
	x := q.Items[0].E
	time := api.Expr{Op: api.OpCol, Name: source.time}
	if !expr.Same(x, api.Expr{Op: api.OpBucket, Width: x.Width, Args: []api.Expr{time}}) {
		return false
	}
	return source.width == 0 || x.Width%source.width == 0
}

// grouped tells whether a view is grouped by its first items: the bucket, and columns.
func grouped(q api.Query) bool {
	if len(q.Group) == 0 || len(q.Group) > len(q.Items) {
		return false
	}
	for i, g := range q.Group {
		if i > 0 && g.Op != api.OpCol || !expr.Same(g, q.Items[i].E) {
			return false
		}
	}
	return true
}

// aggregates tells whether all items behind those that a view is grouped by are aggregates with names.
func aggregates(q api.Query) bool {
	for _, i := range q.Items[len(q.Group):] {
		if !agg.Is(i.E.Op) || i.As == "" {
			return false
		}
	}
	return true
}

func typed(cols []api.Column) bool {
	for _, c := range cols {
		if c.Type == api.Null {
			return false
		}
	}
	return true
}
