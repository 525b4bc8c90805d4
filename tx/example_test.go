package tx_test

import (
	"fmt"

	"waybill/api"
	"waybill/tx"
	"waybill/u256"
)

// As README.md has it.
func Example() {
	payment := api.Tx{Type: api.TypeDynamic, Chain: 1, Tip: u256.From(2), Cap: u256.From(100), Gas: 21000, To: api.Address{19: 7}, Value: u256.From(1000)}
	text, e := tx.Encode(payment)
	if e != api.OK {
		fmt.Println(e)
		return
	}
	again, _ := tx.Decode(text)
	same := tx.Same(again, payment)
	hash, _ := tx.Hash(payment)
	items, _ := tx.Fields(payment)
	chain, named, odd, _ := tx.Chain(u256.From(38))
	_, rest := tx.Decode(append(text, 0))
	payment.Price = u256.From(1)
	wrong := tx.Check(payment)
	fmt.Printf("%x %t %x\n", text, same, hash)
	fmt.Println(len(items), chain, named, odd)
	fmt.Println(rest, wrong)
	// Output:
	// 02e4018002648252089400000000000000000000000000000000000000078203e880c0808080 true 1e9f79d6a62aed861cee9f67add5c42c6b483738aaf75809c23209a12f1fb825
	// 9 1 true true
	// waybill: error 73 waybill: error 152
}
