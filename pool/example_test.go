package pool_test

import (
	"fmt"

	"waybill/api"
	"waybill/pool"
	"waybill/signing"
	"waybill/tx"
	"waybill/u256"
)

// As README.md has it.
func Example() {
	p, e := pool.New(1, u256.From(10), 30000000, 100)
	if e != api.OK {
		fmt.Println(e)
		return
	}
	draft := api.Tx{Type: api.TypeDynamic, Chain: 1, Tip: u256.From(2), Cap: u256.From(20), Gas: 21000}
	signed, _ := signing.Sign(draft, u256.From(1))
	sender, _ := signing.Sender(signed)
	text, _ := tx.Encode(signed)
	_, poor := p.Add(text)
	p.SetAccount(sender, 0, u256.From(1000000))
	hash, e := p.Add(text)
	if e != api.OK {
		fmt.Println(e)
		return
	}
	_, again := p.Add(text)
	draft.Cap = u256.From(21)
	signed, _ = signing.Sign(draft, u256.From(1))
	text, _ = tx.Encode(signed)
	_, low := p.Add(text)
	next := p.Next(sender)
	ready := p.Ready(30000000)
	p.SetBase(u256.From(19))
	all := p.Waiting()
	raw, _ := p.Raw(hash)
	count := p.Mined([]api.Hash{hash})
	_, used := p.Add(raw)
	none := p.Drop(hash)
	fmt.Println(poor, again, low)
	fmt.Println(next, len(ready), ready[0].Hash == hash, ready[0].Tip[0], all[0].Tip[0], len(raw))
	fmt.Println(count, p.Len(), p.Has(hash), p.Next(sender), used, none)
	// Output:
	// waybill: error 245 waybill: error 241 waybill: error 243
	// 1 1 true 2 1 101
	// 1 0 false 1 waybill: error 242 waybill: error 247
}
