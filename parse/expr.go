package parse

import (
	"tideline/api"
	"tideline/token"
)

// sign is how an operation of two arguments is written.
type sign struct {
	word string
	op   uint8
}

// depth is how deeply an expression is nested.
func depth(e api.Expr) int {
	d := 0
	for _, a := range e.Args {
		d = max(d, depth(a))
	}
	return d + 1
}

// expr is an expression that stands by itself, not within another one.
func (p *parser) expr() api.Expr {
	e := p.or()
	if depth(e) > api.MaxDepth {
		p.deep = true
	}
	return e
}

func node(op uint8, args ...api.Expr) api.Expr {
	l := make([]api.Expr, len(args))
	copy(l, args)
	return api.Expr{Op: op, Args: l}
}

// infix is the operation whose sign comes next, past which it goes; 0, if none does.
func (p *parser) infix(signs ...sign) uint8 {
	for _, s := range signs {
		if p.accept(s.word) {
			return s.op
		}
	}
	return 0
}

// left is operations of one tightness, from the left, over what is tighter.
func (p *parser) left(tighter func() api.Expr, signs ...sign) api.Expr {
	e := tighter()
	for {
		op := p.infix(signs...)
		if op == 0 {
			return e
		}
		e = node(op, e, tighter())
	}
}

func (p *parser) or() api.Expr { return p.left(p.and, sign{"or", api.OpOr}) }

func (p *parser) and() api.Expr { return p.left(p.not, sign{"and", api.OpAnd}) }

func (p *parser) not() api.Expr {
	if p.accept("not") {
		return node(api.OpNot, p.not())
	}
	return p.compare()
}

func (p *parser) compare() api.Expr {
	e := p.sum()
	if p.accept("is") {
		op := api.OpIsNull
		if p.accept("not") {
			op = api.OpNotNull
		}
		p.expect("null")
		return node(op, e)
	}
	op := p.infix(sign{"=", api.OpEq}, sign{"<>", api.OpNe}, sign{"<", api.OpLt}, sign{"<=", api.OpLe}, sign{">", api.OpGt}, sign{">=", api.OpGe})
	if op == 0 {
		return e
	}
	return node(op, e, p.sum())
}

func (p *parser) sum() api.Expr {
	return p.left(p.product, sign{"+", api.OpAdd}, sign{"-", api.OpSub})
}

func (p *parser) product() api.Expr {
	return p.left(p.unary, sign{"*", api.OpMul}, sign{"/", api.OpDiv}, sign{"%", api.OpMod})
}

func (p *parser) unary() api.Expr {
	if p.accept("-") {
		return node(api.OpNeg, p.unary())
	}
	return p.primary()
}

func literal(v api.Value) api.Expr { return api.Expr{Op: api.OpLit, Value: v} }

func (p *parser) primary() api.Expr {
	t := p.word()
	switch t.Kind {
	case api.TokInt:
		p.at++
		return literal(api.Value{Kind: api.Int, Int: t.Int})
	case api.TokText:
		p.at++
		return literal(api.Value{Kind: api.Text, Text: t.Text})
	case api.TokWord:
		return p.worded()
	}
	p.expect("(")
	e := p.or()
	p.expect(")")
	return e
}

// worded is an expression that begins with a word.
func (p *parser) worded() api.Expr {
	t := p.word()
	switch t.Text {
	case "true", "false", "null":
		p.at++
		return literal(constant(t.Text))
	}
	if token.Reserved(t.Text) {
		p.fail()
	}
	p.at++
	if p.is("(") {
		if e, ok := p.function(t.Text); ok {
			return e
		}
	}
	return api.Expr{Op: api.OpCol, Name: t.Text}
}

func constant(s string) api.Value {
	switch s {
	case "true":
		return api.Value{Kind: api.Bool, Int: 1}
	case "false":
		return api.Value{Kind: api.Bool}
	}
	return api.Value{}
}

// function is one of that name, at its bracket; false, if there is none.
func (p *parser) function(name string) (api.Expr, bool) {
	ops := map[string]uint8{
		"bucket": api.OpBucket, "count": api.OpCount, "sum": api.OpSum, "min": api.OpMin,
		"max": api.OpMax, "avg": api.OpAvg, "first": api.OpFirst, "last": api.OpLast,
	}
	op, ok := ops[name]
	if !ok {
		return api.Expr{}, false
	}
	p.expect("(")
	e := p.arguments(op)
	p.expect(")")
	return e, true
}

func (p *parser) arguments(op uint8) api.Expr {
	switch op {
	case api.OpBucket:
		width := p.number()
		p.expect(",")
		e := node(op, p.or())
		e.Width = width
		return e
	case api.OpFirst, api.OpLast:
		a := p.or()
		p.expect(",")
		return node(op, a, p.or())
	case api.OpCount:
		if p.accept("*") {
			return api.Expr{Op: api.OpCountAll}
		}
	}
	return node(op, p.or())
}
