package part

import (
	"testing"

	"tideline/api"
)

func TestOf(t *testing.T) {
	// FNV-1a of the one byte 01.
	if p, ok := Of(api.Value{}, 1000); !ok || p != (2166136261^1)*16777619%(1<<32)%1000 {
		t.Errorf("of Null: %d, %v", p, ok)
	}
	seen := map[int64]int{}
	for c := range 100 {
		p, ok := Of(api.Value{Kind: api.Text, Text: string(rune('a' + c))}, 7)
		if !ok || p < 0 || p >= 7 {
			t.Errorf("%d, %v", p, ok)
		}
		seen[p]++
	}
	if len(seen) != 7 {
		t.Errorf("%d parts", len(seen))
	}
	if p, ok := Of(api.Value{Kind: 9}, 7); ok || p != 0 {
		t.Error("a value that is none")
	}
	if p, ok := Of(api.Value{}, 0); ok || p != 0 {
		t.Error("no parts")
	}
}
