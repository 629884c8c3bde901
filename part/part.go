// Package part tells in which part of a table a row lies, by its value of Space.
package part

import (
	"tideline/api"
	"tideline/key"
)

// Of is the part of a value, of so many; false, if the value is none.
func Of(v api.Value, parts int64) (int64, bool) {
	b, code := key.Append(nil, v)
	if code != api.OK || parts < 1 {
		return 0, false
	}
	h := uint32(2166136261)
	for _, c := range b {
		h = (h ^ uint32(c)) * 16777619
	}
	return int64(h) % parts, true
}
