package print

import (
	"tideline/api"
	"tideline/token"
	"tideline/value"
)

// judge tells what can be told.
type judge struct{ how map[uint8]way }

func newJudge() *judge { return &judge{ways()} }

// all tells whether each element is good, and whether there are as many as may be.
func all[T any](l []T, least, most int, good func(T) bool) bool {
	if len(l) < least || len(l) > most {
		return false
	}
	for _, x := range l {
		if !good(x) {
			return false
		}
	}
	return true
}

func (j *judge) exprs(l []api.Expr, least, most int) bool { return all(l, least, most, j.expr) }

func (j *judge) expr(x api.Expr) bool { return j.within(x, api.MaxDepth) }

// within tells whether an expression can be told, and is not deeper than that.
func (j *judge) within(x api.Expr, depth int) bool {
	how, ok := j.how[x.Op]
	if !ok || depth == 0 || len(x.Args) != how.args {
		return false
	}
	for _, a := range x.Args {
		if !j.within(a, depth-1) {
			return false
		}
	}
	switch x.Op {
	case api.OpLit:
		return value.Good(x.Value) && (x.Value.Kind != api.Int || x.Value.Int >= 0) && x.Name == "" && x.Width == 0
	case api.OpCol:
		return x.Value == api.Value{} && token.Name(x.Name) && x.Width == 0
	case api.OpBucket:
		return x.Value == api.Value{} && x.Name == "" && x.Width >= 0
	}
	return x.Value == api.Value{} && x.Name == "" && x.Width == 0
}

func (j *judge) query(q api.Query) bool {
	item := func(i api.Item) bool { return j.expr(i.E) && (i.As == "" || token.Name(i.As)) }
	order := func(o api.Order) bool { return j.expr(o.E) }
	limit := func(n int64) bool { return n >= 0 }
	return all(q.Items, 0, api.MaxList, item) && token.Name(q.From) &&
		j.exprs(q.Where, 0, 1) && j.exprs(q.Group, 0, api.MaxList) && j.exprs(q.Having, 0, 1) &&
		all(q.Order, 0, api.MaxList, order) && all(q.Limit, 0, 1, limit)
}

func noQuery(q api.Query) bool {
	return len(q.Items) == 0 && q.From == "" && !q.Only && len(q.Where) == 0 && len(q.Group) == 0 &&
		len(q.Having) == 0 && len(q.Order) == 0 && len(q.Limit) == 0
}

// rest tells whether a statement has nothing but its Kind.
func rest(s api.Stmt) bool {
	return s.Name == "" && len(s.Cols) == 0 && s.Time == "" && s.Every == 0 && s.Space == "" && s.Parts == 0 &&
		noQuery(s.Query) && s.What == 0 && s.Of == "" && s.A == 0 && s.B == 0 && len(s.Rows) == 0 && len(s.Sets) == 0 &&
		len(s.Where) == 0 && s.From == api.Value{} && s.To == api.Value{}
}

// statement tells whether a statement can be told: whether it has what its Kind asks for, and nothing else.
func (j *judge) statement(s api.Stmt) bool {
	kinds := map[uint8]func(s *api.Stmt) bool{
		api.StTable:      j.table,
		api.StView:       j.selects,
		api.StJob:        j.job,
		api.StDrop:       j.drop,
		api.StInsert:     j.insert,
		api.StUpdate:     j.update,
		api.StDelete:     j.condition,
		api.StSelect:     j.selects,
		api.StRefresh:    j.window,
		api.StCompress:   j.before,
		api.StDecompress: j.before,
		api.StDropChunks: j.before,
	}
	f, ok := kinds[s.Kind]
	if !ok || !f(&s) {
		return false
	}
	if s.Kind != api.StSelect && !token.Name(s.Name) {
		return false
	}
	if s.Kind != api.StSelect {
		s.Name = ""
	}
	return rest(s)
}

// Each of these takes off the statement what it has looked at.

func (j *judge) table(s *api.Stmt) bool {
	good := all(s.Cols, 1, api.MaxList, func(c api.Column) bool { return typed(c.Type) != "" && token.Name(c.Name) })
	good = good && token.Name(s.Time) && s.Every >= 0
	if s.Space != "" {
		good = good && token.Name(s.Space) && s.Parts >= 0
		s.Space, s.Parts = "", 0
	}
	s.Cols, s.Time, s.Every = nil, "", 0
	return good
}

func (j *judge) selects(s *api.Stmt) bool {
	good := j.query(s.Query)
	s.Query = api.Query{}
	return good
}

func (j *judge) job(s *api.Stmt) bool {
	good := token.Name(s.Of) && s.A >= 0 && s.Every >= 0
	switch s.What {
	case api.StRefresh:
		good = good && s.B >= 0
		s.B = 0
	case api.StCompress, api.StDropChunks:
	default:
		return false
	}
	s.What, s.Of, s.A, s.Every = 0, "", 0, 0
	return good
}

func (j *judge) drop(s *api.Stmt) bool {
	good := what(s.What) != ""
	s.What = 0
	return good
}

func (j *judge) insert(s *api.Stmt) bool {
	good := all(s.Rows, 1, api.MaxList, func(l []api.Expr) bool { return j.exprs(l, 1, api.MaxList) })
	s.Rows = nil
	return good
}

func (j *judge) update(s *api.Stmt) bool {
	good := all(s.Sets, 1, api.MaxList, func(x api.Set) bool { return token.Name(x.Name) && j.expr(x.E) })
	s.Sets = nil
	return j.condition(s) && good
}

func (j *judge) condition(s *api.Stmt) bool {
	good := j.exprs(s.Where, 0, 1)
	s.Where = nil
	return good
}

// end tells whether a value can be one of a window.
func end(v api.Value) bool {
	return v == api.Value{} || v.Kind == api.Int && value.Good(v) && v.Int > -1<<63
}

func (j *judge) window(s *api.Stmt) bool {
	good := end(s.From)
	s.From = api.Value{}
	return j.before(s) && good
}

func (j *judge) before(s *api.Stmt) bool {
	good := end(s.To)
	s.To = api.Value{}
	return good
}
