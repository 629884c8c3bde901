package query

import (
	"math/rand"
	"reflect"
	"slices"
	"testing"

	"tideline/api"
	"tideline/expr"
	"tideline/value"
)

// chapter tells, of a query, all errors that the chapter names of it, in the order in which it names them.
type chapter struct {
	cols    []api.Column
	group   []api.Expr
	grouped bool
}

// takes is the kinds that an operation's arguments must go with (Null: any), and what it is then (-1: the first argument's).
var takes = map[uint8]struct {
	args []uint8
	is   int
}{
	api.OpLit: {nil, -1}, api.OpCol: {nil, -1},
	api.OpNeg: {[]uint8{api.Int}, 2}, api.OpBucket: {[]uint8{api.Int}, 2}, api.OpNot: {[]uint8{api.Bool}, 1}, api.OpIsNull: {[]uint8{api.Null}, 1}, api.OpNotNull: {[]uint8{api.Null}, 1},
	api.OpAdd: {[]uint8{api.Int, api.Int}, 2}, api.OpSub: {[]uint8{api.Int, api.Int}, 2}, api.OpMul: {[]uint8{api.Int, api.Int}, 2}, api.OpDiv: {[]uint8{api.Int, api.Int}, 2}, api.OpMod: {[]uint8{api.Int, api.Int}, 2},
	api.OpEq: {[]uint8{0, 0}, 1}, api.OpNe: {[]uint8{0, 0}, 1}, api.OpLt: {[]uint8{0, 0}, 1}, api.OpLe: {[]uint8{0, 0}, 1}, api.OpGt: {[]uint8{0, 0}, 1}, api.OpGe: {[]uint8{0, 0}, 1},
	api.OpAnd: {[]uint8{api.Bool, api.Bool}, 1}, api.OpOr: {[]uint8{api.Bool, api.Bool}, 1},
	api.OpCountAll: {nil, 2}, api.OpCount: {[]uint8{api.Null}, 2}, api.OpSum: {[]uint8{api.Int}, 2}, api.OpAvg: {[]uint8{api.Int}, 2}, api.OpMin: {[]uint8{api.Null}, -1}, api.OpMax: {[]uint8{api.Null}, -1}, api.OpFirst: {[]uint8{api.Null, api.Int}, -1}, api.OpLast: {[]uint8{api.Null, api.Int}, -1},
}

func goes(a, b uint8) bool { return a == b || a == api.Null || b == api.Null }

// errors are an expression's: those of its arguments, then its own; its type, if there are none. Above are those that a query answers of its groups.
func (c chapter) errors(x api.Expr, above bool) ([]api.Errno, uint8) {
	if above && slices.ContainsFunc(c.group, func(g api.Expr) bool { return expr.Same(g, x) }) {
		return c.errors(x, false)
	}
	aggregate := x.Op >= api.OpCountAll && x.Op <= api.OpLast
	var l []api.Errno
	var kinds []uint8
	for _, a := range x.Args {
		codes, kind := c.errors(a, above && !aggregate)
		l = append(l, codes...)
		kinds = append(kinds, kind)
	}
	if len(l) > 0 {
		return l, 0
	}
	own := func(code api.Errno, is bool) {
		if is {
			l = append(l, code)
		}
	}
	rule, known := takes[x.Op]
	formed := known && len(x.Args) == len(rule.args)
	own(api.ErrForm, !formed || x.Op == api.OpLit && !value.Good(x.Value) || x.Op == api.OpBucket && (x.Width < 1 || x.Width > api.MaxEvery))
	own(api.ErrGroup, aggregate && !above)
	column := slices.IndexFunc(c.cols, func(h api.Column) bool { return h.Name == x.Name })
	own(api.ErrName, x.Op == api.OpCol && column < 0)
	if formed {
		for i, k := range rule.args {
			own(api.ErrType, !goes(k, kinds[i]))
		}
		own(api.ErrType, x.Op >= api.OpEq && x.Op <= api.OpGe && !goes(kinds[0], kinds[1]))
	}
	own(api.ErrGroup, x.Op == api.OpCol && above)
	switch {
	case len(l) > 0:
		return l, 0
	case x.Op == api.OpLit:
		return nil, x.Value.Kind
	case x.Op == api.OpCol:
		return nil, c.cols[column].Type
	case rule.is < 0:
		return nil, kinds[0]
	}
	return nil, uint8(rule.is)
}

// check is what Check answers of a query that is sized.
func (c chapter) check(q api.Query) ([]api.Column, api.Errno) {
	var l []api.Errno
	one := func(x api.Expr, above, condition bool) uint8 {
		codes, kind := c.errors(x, above)
		l = append(l, codes...)
		if len(codes) == 0 && condition && !goes(kind, api.Bool) {
			l = append(l, api.ErrType)
		}
		return kind
	}
	for _, x := range q.Where {
		one(x, false, true)
	}
	for _, x := range q.Group {
		one(x, false, false)
	}
	out := c.cols
	if len(q.Items) > 0 {
		out = nil
	} else if c.grouped {
		l = append(l, api.ErrGroup)
	}
	for _, i := range q.Items {
		name := i.As
		if name == "" && i.E.Op == api.OpCol {
			name = i.E.Name
		}
		out = append(out, api.Column{Name: name, Type: one(i.E, c.grouped, false)})
	}
	for _, x := range q.Having {
		one(x, c.grouped, true)
	}
	for _, o := range q.Order {
		one(o.E, c.grouped, false)
	}
	if len(l) > 0 {
		return nil, l[0]
	}
	return out, api.OK
}

// maker makes queries by chance, of which many are wrong in several places.
type maker struct{ *rand.Rand }

func (r maker) leaf() api.Expr {
	if r.Intn(2) == 0 {
		return api.Expr{Op: api.OpCol, Name: []string{"time", "d", "s", "x", ""}[r.Intn(5)]}
	}
	return api.Expr{Op: api.OpLit, Value: []api.Value{{}, num(1), text("a"), {Kind: api.Bool, Int: 1}, {Kind: api.Bool, Int: 2}}[r.Intn(5)]}
}

func (r maker) expression(depth int) api.Expr {
	if depth == 0 || r.Intn(4) == 0 {
		return r.leaf()
	}
	x := api.Expr{Op: uint8(r.Intn(30)), Width: int64(r.Intn(4))}
	n := len(takes[x.Op].args)
	if r.Intn(16) == 0 {
		n = r.Intn(4)
	}
	for range n {
		x.Args = append(x.Args, r.expression(depth-1))
	}
	return x
}

func (r maker) list(most int, group []api.Expr) []api.Expr {
	var l []api.Expr
	for range r.Intn(most + 1) {
		x := r.expression(r.Intn(4))
		if len(group) > 0 && r.Intn(2) == 0 {
			x = group[r.Intn(len(group))]
		}
		l = append(l, x)
	}
	return l
}

func (r maker) query() api.Query {
	q := api.Query{Where: r.list(r.Intn(2), nil), Group: r.list(r.Intn(3), nil)}
	for _, x := range r.list(3, q.Group) {
		q.Items = append(q.Items, api.Item{E: x, As: []string{"", "a"}[r.Intn(2)]})
	}
	q.Having = r.list(r.Intn(2), q.Group)
	for _, x := range r.list(r.Intn(3), q.Group) {
		q.Order = append(q.Order, api.Order{E: x})
	}
	return q
}

// Of several errors the one that the chapter names first is answered (R5, P16.1).
func TestFirstErrors(t *testing.T) {
	cols := []api.Column{{Name: "time", Type: api.Int}, {Name: "d", Type: api.Bool}, {Name: "s", Type: api.Text}, {Name: "s", Type: api.Int}}
	r := maker{rand.New(rand.NewSource(1))}
	seen := map[api.Errno]int{}
	for range 200000 {
		q := r.query()
		c := chapter{cols: cols, group: q.Group, grouped: Grouped(q)}
		want, first := c.check(q)
		got, code := Check(q, cols)
		if code != first || !slices.Equal(got, want) {
			t.Fatalf("%+v: %v, %d, not %v, %d", q, got, code, want, first)
		}
		result, code := Run(q, cols, nil)
		wrong := first == api.OK && (code == api.ErrZero || code == api.ErrOver) // some groups go wrong without a row
		if code != first && !wrong || code == api.OK && !slices.Equal(result.Cols, want) || code != api.OK && !reflect.DeepEqual(result, api.Result{}) {
			t.Fatalf("Run of %+v: %v, %d, not %d", q, result, code, first)
		}
		if c.grouped {
			seen[first]++
		}
	}
	for _, code := range []api.Errno{api.OK, api.ErrForm, api.ErrType, api.ErrName, api.ErrGroup} {
		if seen[code] < 100 {
			t.Errorf("%d of grouped queries answer %d", seen[code], code)
		}
	}
}
