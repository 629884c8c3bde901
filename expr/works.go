package expr

import (
	"math/bits"

	"tideline/api"
	"tideline/value"
)

// work is what an operation makes of arguments whose kinds go.
type work func(x api.Expr, args []api.Value) (api.Value, api.Errno)

func number(n int64) api.Value { return api.Value{Kind: api.Int, Int: n} }

func truth(b bool) api.Value {
	if b {
		return api.Value{Kind: api.Bool, Int: 1}
	}
	return api.Value{Kind: api.Bool}
}

// works are the operations that have arguments, but for aggregates.
func works() map[uint8]work {
	return map[uint8]work{
		api.OpNeg:     numbers(func(x api.Expr, l ...int64) (int64, api.Errno) { return minus(0, l[0]) }),
		api.OpAdd:     numbers(func(x api.Expr, l ...int64) (int64, api.Errno) { return plus(l[0], l[1]) }),
		api.OpSub:     numbers(func(x api.Expr, l ...int64) (int64, api.Errno) { return minus(l[0], l[1]) }),
		api.OpMul:     numbers(func(x api.Expr, l ...int64) (int64, api.Errno) { return times(l[0], l[1]) }),
		api.OpDiv:     numbers(func(x api.Expr, l ...int64) (int64, api.Errno) { return quotient(l[0], l[1]) }),
		api.OpMod:     numbers(func(x api.Expr, l ...int64) (int64, api.Errno) { return rest(l[0], l[1]) }),
		api.OpBucket:  numbers(func(x api.Expr, l ...int64) (int64, api.Errno) { return bucket(l[0], x.Width) }),
		api.OpEq:      compared(func(c int) bool { return c == 0 }),
		api.OpNe:      compared(func(c int) bool { return c != 0 }),
		api.OpLt:      compared(func(c int) bool { return c < 0 }),
		api.OpLe:      compared(func(c int) bool { return c <= 0 }),
		api.OpGt:      compared(func(c int) bool { return c > 0 }),
		api.OpGe:      compared(func(c int) bool { return c >= 0 }),
		api.OpNot:     not,
		api.OpAnd:     joined(false),
		api.OpOr:      joined(true),
		api.OpIsNull:  func(x api.Expr, args []api.Value) (api.Value, api.Errno) { return truth(null(args...)), api.OK },
		api.OpNotNull: func(x api.Expr, args []api.Value) (api.Value, api.Errno) { return truth(!null(args...)), api.OK },
	}
}

// null tells whether one is Null.
func null(l ...api.Value) bool {
	for _, v := range l {
		if v.Kind == api.Null {
			return true
		}
	}
	return false
}

func numbers(f func(x api.Expr, l ...int64) (int64, api.Errno)) work {
	return func(x api.Expr, args []api.Value) (api.Value, api.Errno) {
		if null(args...) {
			return api.Value{}, api.OK
		}
		var room [2]int64
		l := room[:0]
		for _, v := range args {
			l = append(l, v.Int)
		}
		n, code := f(x, l...)
		if code != api.OK {
			return api.Value{}, code
		}
		return number(n), api.OK
	}
}

func plus(a, b int64) (int64, api.Errno) {
	c := a + b
	if (c < a) != (b < 0) {
		return 0, api.ErrOver
	}
	return c, api.OK
}

func minus(a, b int64) (int64, api.Errno) {
	c := a - b
	if (c > a) != (b < 0) {
		return 0, api.ErrOver
	}
	return c, api.OK
}

// size is how great a number is without its sign.
func size(a int64) uint64 {
	if a < 0 {
		return -uint64(a)
	}
	return uint64(a)
}

func times(a, b int64) (int64, api.Errno) {
	high, low := bits.Mul64(size(a), size(b))
	negative := (a < 0) != (b < 0)
	if high > 0 || low > 1<<63 || low == 1<<63 && !negative {
		return 0, api.ErrOver
	}
	if negative {
		return -int64(low), api.OK
	}
	return int64(low), api.OK
}

func quotient(a, b int64) (int64, api.Errno) {
	if b == 0 {
		return 0, api.ErrZero
	}
	if b == -1 {
		return minus(0, a)
	}
	return a / b, api.OK
}

func rest(a, b int64) (int64, api.Errno) {
	if b == 0 {
		return 0, api.ErrZero
	}
	if b == -1 {
		return 0, api.OK
	}
	return a % b, api.OK
}

func bucket(t, width int64) (int64, api.Errno) {
	r := t % width
	if r < 0 {
		r += width
	}
	return minus(t, r)
}

func compared(is func(c int) bool) work {
	return func(x api.Expr, args []api.Value) (api.Value, api.Errno) {
		if null(args...) {
			return api.Value{}, api.OK
		}
		return truth(is(value.Compare(args[0], args[1]))), api.OK
	}
}

func not(x api.Expr, args []api.Value) (api.Value, api.Errno) {
	if null(args...) {
		return api.Value{}, api.OK
	}
	return truth(args[0].Int == 0), api.OK
}

// joined is AND, or OR, which is what decides it as soon as one argument is that.
func joined(decides bool) work {
	return func(x api.Expr, args []api.Value) (api.Value, api.Errno) {
		for _, v := range args {
			if v == truth(decides) {
				return v, api.OK
			}
		}
		if null(args...) {
			return api.Value{}, api.OK
		}
		return truth(!decides), api.OK
	}
}
