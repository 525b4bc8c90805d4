package keccak_test

import (
	"testing"

	"waybill/chance"
	"waybill/keccak"
)

// P2.1: the chapter's examples.
func TestPermuteExamples(t *testing.T) {
	var none, all, seventh [25]uint64
	for i := range all {
		all[i] = 1<<64 - 1
	}
	seventh[7] = 1
	for _, c := range []struct {
		lanes [25]uint64
		want  []uint64
	}{
		{none, []uint64{0xf1258f7940e1dde7, 0x84d5ccf933c0478a, 0xd598261ea65aa9ee}},
		{all, []uint64{0x9f00f21bba6817c4, 0xcdf5aa0d21af5e78}},
		{seventh, []uint64{0xf89fa1b0580a15ba, 0xd09a0e1fda1679c7}},
	} {
		got := keccak.Permute(c.lanes)
		for i, want := range c.want {
			if got[i] != want {
				t.Errorf("Permute(%x): lane %d is %x, want %x", c.lanes, i, got[i], want)
			}
		}
	}
}

// P2.1: all lanes of the answer, for each bit alone, each bit left out, and others.
func TestPermuteModel(t *testing.T) {
	check := func(lanes [25]uint64) {
		t.Helper()
		if got, want := keccak.Permute(lanes), modelPermute(lanes); got != want {
			t.Fatalf("Permute(%x) = %x, want %x", lanes, got, want)
		}
	}
	for i := range 25 {
		for bit := range 64 {
			var lanes [25]uint64
			lanes[i] = 1 << bit
			check(lanes)
			for j := range lanes {
				lanes[j] = ^lanes[j]
			}
			check(lanes)
		}
	}
	row := chance.Row(2)
	for range 2000 {
		check(anyLanes(&row))
	}
}

// P2.1: one to one: what Permute answers can be led back, and what is led back, Permute leads on.
func TestPermuteOneToOne(t *testing.T) {
	row := chance.Row(3)
	for range 50 {
		lanes := anyLanes(&row)
		if modelBack(keccak.Permute(lanes)) != lanes {
			t.Fatalf("Permute(%x) can't be led back", lanes)
		}
		if keccak.Permute(modelBack(lanes)) != lanes {
			t.Fatalf("nothing is permuted to %x", lanes)
		}
	}
	seen := map[[25]uint64]int{}
	for bit := range 1600 {
		var lanes [25]uint64
		lanes[bit/64] = 1 << (bit % 64)
		seen[keccak.Permute(lanes)]++
	}
	if len(seen) != 1600 {
		t.Errorf("1600 unlike lanes have %d answers", len(seen))
	}
}

// P2.1, P0.3: the lanes that were handed in stay as they are.
func TestPermuteKeepsLanes(t *testing.T) {
	row := chance.Row(4)
	lanes := anyLanes(&row)
	before := lanes
	if keccak.Permute(lanes) != keccak.Permute(before) || lanes != before {
		t.Error("Permute changes its argument, or answers something else when asked again")
	}
}
