package abi

import (
	"testing"

	"waybill/api"
)

// What is given up is told by its number; a mistake of the program's own does not pass for an answer.
func TestCaught(t *testing.T) {
	if e := caught(func() {}); e != api.OK {
		t.Errorf("nothing given up: %d", e)
	}
	if e := caught(func() { giveUp(api.ErrAbiPad) }); e != api.ErrAbiPad {
		t.Errorf("given up: %d", e)
	}
	defer func() {
		if given := recover(); given != "a mistake" {
			t.Errorf("the mistake became %v", given)
		}
	}()
	caught(func() { panic("a mistake") })
	t.Error("a mistake was swallowed")
}
