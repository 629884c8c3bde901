package print

import (
	"tideline/api"
	"tideline/value"
)

// way is how an operation is told, and how many arguments it has; signed: it has a sign, and so stands in brackets beside another one.
type way struct {
	args   int
	signed bool
	tell   func(w *writer, x api.Expr)
}

func ways() map[uint8]way {
	return map[uint8]way{
		api.OpLit:      {0, false, func(w *writer, x api.Expr) { w.put(value.Word(x.Value)) }},
		api.OpCol:      {0, false, func(w *writer, x api.Expr) { w.put(x.Name) }},
		api.OpNeg:      ahead("-"),
		api.OpNot:      ahead("NOT"),
		api.OpAdd:      between("+"),
		api.OpSub:      between("-"),
		api.OpMul:      between("*"),
		api.OpDiv:      between("/"),
		api.OpMod:      between("%"),
		api.OpEq:       between("="),
		api.OpNe:       between("<>"),
		api.OpLt:       between("<"),
		api.OpLe:       between("<="),
		api.OpGt:       between(">"),
		api.OpGe:       between(">="),
		api.OpAnd:      between("AND"),
		api.OpOr:       between("OR"),
		api.OpIsNull:   behind("IS", "NULL"),
		api.OpNotNull:  behind("IS", "NOT", "NULL"),
		api.OpBucket:   {1, false, bucket},
		api.OpCountAll: {0, false, countAll},
		api.OpCount:    function("count", 1),
		api.OpSum:      function("sum", 1),
		api.OpMin:      function("min", 1),
		api.OpMax:      function("max", 1),
		api.OpAvg:      function("avg", 1),
		api.OpFirst:    function("first", 2),
		api.OpLast:     function("last", 2),
	}
}

func ahead(sign string) way {
	return way{1, true, func(w *writer, x api.Expr) {
		w.put(sign)
		w.argument(x.Args[0])
	}}
}

func between(sign string) way {
	return way{2, true, func(w *writer, x api.Expr) {
		w.argument(x.Args[0])
		w.put(sign)
		w.argument(x.Args[1])
	}}
}

func behind(words ...string) way {
	return way{1, true, func(w *writer, x api.Expr) {
		w.argument(x.Args[0])
		w.put(words...)
	}}
}

func function(name string, args int) way {
	return way{args, false, func(w *writer, x api.Expr) {
		defer w.bracket(name)()
		w.exprs(x.Args)
	}}
}

func bucket(w *writer, x api.Expr) {
	defer w.bracket("bucket")()
	w.number(x.Width)
	w.put(",")
	w.exprs(x.Args)
}

func countAll(w *writer, x api.Expr) {
	defer w.bracket("count")()
	w.put("*")
}
