package query

import (
	"cmp"
	"iter"
	"slices"
	"strconv"

	"tideline/agg"
	"tideline/api"
	"tideline/expr"
	"tideline/value"
)

// group is the rows of like values of Group.
type group struct {
	values []api.Value
	states []*agg.State
}

// runner takes a query's rows through its phases.
type runner struct {
	q    api.Query
	cols []api.Column // of rows; in the last phases of what stands for a group
	rows [][]api.Value
	aggs []api.Expr
}

// Run is what it answers of rows.
func Run(q api.Query, cols []api.Column, rows [][]api.Value) (api.Result, api.Errno) {
	out, code := Check(q, cols)
	if code != api.OK {
		return api.Result{}, code
	}
	for _, r := range rows {
		if !fits(cols, r) {
			return api.Result{}, api.ErrType
		}
	}
	r := &runner{q: q, cols: cols, rows: rows}
	steps := []func() api.Errno{r.where}
	if Grouped(q) {
		steps = append(steps, r.group, r.having)
	}
	for _, step := range steps {
		if code := step(); code != api.OK {
			return api.Result{}, code
		}
	}
	answers, code := r.answers()
	if code != api.OK {
		return api.Result{}, code
	}
	return api.Result{Cols: out, Rows: answers, Count: int64(len(answers))}, api.OK
}

func fits(cols []api.Column, row []api.Value) bool {
	if len(row) != len(cols) {
		return false
	}
	for i, v := range row {
		if !value.Good(v) || v.Kind != api.Null && v.Kind != cols[i].Type {
			return false
		}
	}
	return true
}

// phase does something for each, and answers the least error.
func phase[T any](all iter.Seq[T], do func(x T) api.Errno) api.Errno {
	least := api.OK
	for x := range all {
		if code := do(x); code != api.OK && (least == api.OK || code < least) {
			least = code
		}
	}
	return least
}

// filter leaves the rows of which a condition is TRUE.
func (r *runner) filter(l []api.Expr) api.Errno {
	var left [][]api.Value
	code := phase(slices.Values(r.rows), func(row []api.Value) api.Errno {
		yes, code := expr.True(l, r.cols, row)
		if yes {
			left = append(left, row)
		}
		return code
	})
	r.rows = left
	return code
}

func (r *runner) where() api.Errno { return r.filter(r.q.Where) }

func (r *runner) having() api.Errno { return r.filter(r.q.Having) }

// worths are what expressions are worth by a row.
func (r *runner) worths(l []api.Expr, row []api.Value) ([]api.Value, api.Errno) {
	out := make([]api.Value, 0, len(l))
	for _, x := range l {
		v, code := expr.Eval(x, r.cols, row)
		if code != api.OK {
			return nil, code
		}
		out = append(out, v)
	}
	return out, api.OK
}

// lift makes of each expression over groups one over columns that stand for Group's values and aggregates' answers; the aggregates are gathered.
func (r *runner) lift() {
	var lifted func(x api.Expr) api.Expr
	lifted = func(x api.Expr) api.Expr {
		for i, g := range r.q.Group {
			if expr.Same(g, x) {
				return stand(i)
			}
		}
		if agg.Is(x.Op) {
			r.aggs = append(r.aggs, x)
			return stand(len(r.q.Group) + len(r.aggs) - 1)
		}
		var args []api.Expr
		for _, a := range x.Args {
			args = append(args, lifted(a))
		}
		x.Args = args
		return x
	}
	q := r.q
	q.Items, q.Having, q.Order = nil, nil, nil
	for _, i := range r.q.Items {
		q.Items = append(q.Items, api.Item{E: lifted(i.E), As: i.As})
	}
	for _, x := range r.q.Having {
		q.Having = append(q.Having, lifted(x))
	}
	for _, o := range r.q.Order {
		q.Order = append(q.Order, api.Order{E: lifted(o.E), Desc: o.Desc})
	}
	r.q = q
}

func newGroup(values []api.Value, aggs []api.Expr) (*group, api.Errno) {
	g := &group{values: values}
	for _, x := range aggs {
		s, code := agg.New(x.Op)
		if code != api.OK {
			return nil, code
		}
		g.states = append(g.states, s)
	}
	return g, api.OK
}

// group makes groups of rows; what stands for a group is a row from then on.
func (r *runner) group() api.Errno {
	r.lift()
	var args []api.Expr
	for _, x := range r.aggs {
		args = append(args, x.Args...)
	}
	parts := append(append([]api.Expr(nil), r.q.Group...), args...)
	place := map[string]int{}
	var groups []*group
	find := func(values []api.Value) (*group, api.Errno) {
		k := value.Line(values)
		if i, ok := place[k]; ok {
			return groups[i], api.OK
		}
		g, code := newGroup(values, r.aggs)
		place[k] = len(groups)
		groups = append(groups, g)
		return g, code
	}
	if len(r.q.Group) == 0 {
		if _, code := find(nil); code != api.OK {
			return code
		}
	}
	code := phase(slices.Values(r.rows), func(row []api.Value) api.Errno {
		worths, code := r.worths(parts, row)
		if code != api.OK {
			return code
		}
		n := len(r.q.Group)
		g, code := find(worths[:n:n])
		if code == api.OK {
			g.feed(r.aggs, worths[n:])
		}
		return code
	})
	if code != api.OK {
		return code
	}
	return r.answered(groups)
}

// feed feeds aggregates with what their arguments are worth, one behind the other.
func (g *group) feed(aggs []api.Expr, args []api.Value) {
	for i, x := range aggs {
		var pair [2]api.Value
		copy(pair[:], args[:len(x.Args)])
		args = args[len(x.Args):]
		g.states[i].Feed(pair[0], pair[1])
	}
}

// answered makes a row of each group: Group's values, and aggregates' answers.
func (r *runner) answered(groups []*group) api.Errno {
	r.rows, r.cols = nil, nil
	for i := range len(r.q.Group) + len(r.aggs) {
		r.cols = append(r.cols, api.Column{Name: strconv.Itoa(i)})
	}
	return phase(slices.Values(groups), func(g *group) api.Errno {
		row := append([]api.Value(nil), g.values...)
		for _, s := range g.states {
			v, code := s.Answer()
			if code != api.OK {
				return code
			}
			row = append(row, v)
		}
		r.rows = append(r.rows, row)
		return api.OK
	})
}

// answer is a row that is answered, and what it is put in order by.
type answer struct{ row, by []api.Value }

// answers are the rows that are answered, in order.
func (r *runner) answers() ([][]api.Value, api.Errno) {
	var parts []api.Expr
	for _, i := range r.q.Items {
		parts = append(parts, i.E)
	}
	for _, o := range r.q.Order {
		parts = append(parts, o.E)
	}
	var l []answer
	code := phase(slices.Values(r.rows), func(row []api.Value) api.Errno {
		worths, code := r.worths(parts, row)
		n := len(r.q.Items)
		switch {
		case code != api.OK:
		case n == 0:
			l = append(l, answer{row, worths})
		default:
			l = append(l, answer{worths[:n:n], worths[n:]})
		}
		return code
	})
	if code != api.OK {
		return nil, code
	}
	r.sort(l)
	for _, n := range r.q.Limit {
		l = l[:min(n, int64(len(l)))]
	}
	out := make([][]api.Value, len(l))
	for i, a := range l {
		out[i] = make([]api.Value, len(a.row))
		copy(out[i], a.row)
	}
	return out, api.OK
}

func (r *runner) sort(l []answer) {
	var orders []func(a, b answer) int
	for i, o := range r.q.Order {
		orders = append(orders, func(a, b answer) int {
			if o.Desc {
				a, b = b, a
			}
			return value.Compare(a.by[i], b.by[i])
		})
	}
	orders = append(orders, func(a, b answer) int { return value.Rows(a.row, b.row) })
	slices.SortFunc(l, func(a, b answer) int {
		c := 0
		for _, order := range orders {
			c = cmp.Or(c, order(a, b))
			if c != 0 {
				break
			}
		}
		return c
	})
}
