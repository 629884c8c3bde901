package fault

import (
	"testing"

	"tideline/api"
)

func TestCaught(t *testing.T) {
	done := 0
	if Caught(func() { Need(api.OK); done++ }) != api.OK || done != 1 {
		t.Error("nothing was thrown")
	}
	if Caught(func() { Need(api.ErrFull); done++ }) != api.ErrFull || done != 1 {
		t.Error("an error was thrown")
	}
	if Caught(func() { Need(Caught(func() { Need(api.ErrLong) })) }) != api.ErrLong {
		t.Error("thrown twice")
	}
	defer func() {
		if recover() != "else" {
			t.Error("what is no error goes on")
		}
	}()
	Caught(func() { panic("else") })
}
