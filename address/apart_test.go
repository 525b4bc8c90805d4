package address_test

import (
	"bytes"
	"slices"
	"testing"

	"waybill/address"
	"waybill/api"
	"waybill/chance"
	"waybill/curve"
)

// P9.6, P0.3: nothing is written into code, nor into its room beyond the end, and what stands in that room counts for nothing.
func TestCodeKept(t *testing.T) {
	row := chance.Row(21)
	for _, n := range []int{0, 1, 20, 32, 85, 135, 136, 137, 500} {
		code, whole := row.Roomy(n)
		before := bytes.Clone(whole)
		maker, salt := anyAddress(&row), anyHash(&row)
		want := modelCreate2(maker, salt, bytes.Clone(code))
		if got := address.Create2(maker, salt, code); got != want {
			t.Errorf("the room beyond %d bytes counts", n)
		}
		if !bytes.Equal(whole, before) {
			t.Errorf("code of %d bytes, or its room, was written to", n)
		}
	}
}

// P9.6, P0.3: who writes over a row, or behind it, changes no other answer.
func TestRowsApart(t *testing.T) {
	sender := api.Address{7}
	for _, count := range []int{0, 1, 2, 63, 64, 65, 200} {
		first, _ := address.Row(sender, 0, count)
		second, _ := address.Row(sender, 0, count)
		want := slices.Clone(second)
		room := first[:cap(first)]
		for i := range room {
			room[i] = api.Address{9}
		}
		third, e := address.Row(sender, 0, count)
		if !slices.Equal(second, want) || !slices.Equal(third, want) || e != api.OK {
			t.Errorf("rows of %d share memory", count)
		}
	}
}

// P0.6: what one call is asked shows in no other.
func TestSameAgain(t *testing.T) {
	g := curve.G()
	ask := func() [4]api.Address {
		ofPoint, _ := address.OfPoint(g)
		ofKey, _ := address.OfKey(api.U256{77})
		return [4]api.Address{ofPoint, ofKey, address.Create(api.Address{1}, 300), address.Create2(api.Address{2}, api.Hash{3}, []byte("code"))}
	}
	want := ask()
	address.OfPoint(api.Point{})
	address.OfKey(api.U256{})
	address.OfKey(api.U256{78})
	address.Create(api.Address{4}, 301)
	address.Create2(api.Address{5}, api.Hash{6}, []byte("other code"))
	address.Row(api.Address{1}, 300, 70)
	address.Row(api.Address{1}, most, 2)
	if got := ask(); got != want {
		t.Errorf("%x, and then %x", want, got)
	}
}
