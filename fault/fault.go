// Package fault lets what goes wrong deep below be thrown, and be caught where a call answers.
package fault

import "tideline/api"

// thrown is an error on its way up.
type thrown struct{ code api.Errno }

// Need throws an error, if it is one. Only what is done by Caught may ask it.
func Need(code api.Errno) {
	if code != api.OK {
		panic(thrown{code})
	}
}

// Caught does f, and answers what it threw.
func Caught(f func()) (code api.Errno) {
	defer func() {
		switch x := recover().(type) {
		case nil:
		case thrown:
			code = x.code
		default:
			panic(x)
		}
	}()
	f()
	return api.OK
}
