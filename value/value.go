// Package value is layer 1: values, which of two is less, and how they are told.
package value

import (
	"cmp"
	"slices"
	"strconv"
	"strings"

	"tideline/api"
)

// Good tells whether a value is Null, a Bool, an Int or a Text, and has nothing besides.
func Good(v api.Value) bool {
	switch v.Kind {
	case api.Null:
		return v.Int == 0 && v.Text == ""
	case api.Bool:
		return (v.Int == 0 || v.Int == 1) && v.Text == ""
	case api.Int:
		return v.Text == ""
	case api.Text:
		return v.Int == 0
	}
	return false
}

// Compare tells which of two stands ahead.
func Compare(a, b api.Value) int {
	if c := cmp.Compare(a.Kind, b.Kind); c != 0 {
		return c
	}
	if c := cmp.Compare(a.Int, b.Int); c != 0 {
		return c
	}
	return strings.Compare(a.Text, b.Text)
}

// Rows tells which of two rows stands ahead.
func Rows(a, b []api.Value) int {
	return slices.CompareFunc(a, b, Compare)
}

// words tells, kind by kind, how a good value is told.
func words() map[uint8]func(v api.Value) string {
	truth := [2]string{"FALSE", "TRUE"}
	return map[uint8]func(v api.Value) string{
		api.Null: func(v api.Value) string { return "NULL" },
		api.Bool: func(v api.Value) string { return truth[v.Int] },
		api.Int:  func(v api.Value) string { return strconv.FormatInt(v.Int, 10) },
		api.Text: func(v api.Value) string { return "'" + strings.ReplaceAll(v.Text, "'", "''") + "'" },
	}
}

// Word is a value's word.
func Word(v api.Value) string {
	if !Good(v) {
		return "?"
	}
	return words()[v.Kind](v)
}

// Line is a row's words.
func Line(row []api.Value) string {
	return line(row...)
}

func line(row ...api.Value) string {
	tell := words()
	l := make([]string, 0, len(row))
	for _, v := range row {
		if Good(v) {
			l = append(l, tell[v.Kind](v))
		} else {
			l = append(l, "?")
		}
	}
	return strings.Join(l, ", ")
}

// Sort is all rows, in order.
func Sort(rows [][]api.Value) [][]api.Value {
	l := make([][]api.Value, 0, len(rows))
	for _, r := range rows {
		l = append(l, slices.Clip(append([]api.Value(nil), r...)))
	}
	slices.SortFunc(l, Rows)
	return l
}
