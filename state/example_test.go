package state_test

import (
	"fmt"

	"waybill/api"
	"waybill/state"
	"waybill/u256"
)

// As README.md has it.
func Example() {
	s := state.New()
	alice, shop, key := api.Address{19: 1}, api.Address{19: 2}, api.Hash{31: 7}
	if e := s.Mint(alice, u256.From(100)); e != api.OK {
		fmt.Println(e)
		return
	}
	mark := s.Snapshot()
	s.Transfer(alice, shop, u256.From(30))
	s.Bump(alice)
	s.SetCode(shop, []byte{0x60, 0x01})
	s.Store(shop, key, u256.From(5))
	poor := s.Burn(shop, u256.From(31))
	var seen []byte
	for a := range s.Each() {
		seen = append(seen, a[19])
	}
	root := s.Root()
	nodes := s.Prove(shop)
	entry, there, e := state.Show(root, shop, nodes)
	if e != api.OK {
		fmt.Println(e)
		return
	}
	cell, _ := state.ShowStorage(entry.Storage, key, s.ProveStorage(shop, key))
	text, _ := state.Item(entry)
	same, _ := state.Parse(text)
	_, _, wrong := state.Show(api.Hash{1}, shop, nodes)
	back := s.Revert(mark)
	left := s.Balance(alice)
	gone := s.Revert(mark)
	fmt.Println(poor, seen, len(nodes), entry.Balance[0], there, cell[0])
	fmt.Printf("%x %d %t\n", root[:4], len(text), same == entry)
	fmt.Println(wrong, back == api.OK, left[0], s.Len(), gone)
	// Output:
	// waybill: error 210 [1 2] 2 30 true 5
	// 656c9cb5 70 true
	// waybill: error 131 true 100 1 waybill: error 213
}
