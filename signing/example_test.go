package signing_test

import (
	"fmt"

	"waybill/api"
	"waybill/hexa"
	"waybill/keccak"
	"waybill/signing"
	"waybill/tx"
	"waybill/u256"
)

// As README.md has it.
func Example() {
	draft := api.Tx{Type: api.TypeDynamic, Chain: 1, Tip: u256.From(2), Cap: u256.From(100), Gas: 21000, To: api.Address{19: 7}, Value: u256.From(1000)}
	payload, e := signing.Payload(draft)
	if e != api.OK {
		fmt.Println(e)
		return
	}
	digest, _ := signing.Digest(draft)
	signed, e := signing.Sign(draft, u256.From(1))
	if e != api.OK {
		fmt.Println(e)
		return
	}
	sender, _ := signing.Sender(signed)
	text, _ := tx.Encode(signed)
	signature, _ := signing.Signature(signed)
	again, _ := signing.Signed(draft, signature)
	chain, bound, _ := signing.Protected(draft)
	_, none := signing.Sender(draft)
	fmt.Printf("%x %t\n", payload, digest == keccak.Sum(payload))
	fmt.Println(hexa.Checksum(sender), len(text), tx.Same(again, signed))
	fmt.Println(chain, bound, none)
	// Output:
	// 02e1018002648252089400000000000000000000000000000000000000078203e880c0 true
	// 0x7E5F4552091A69125d5DfCb7b8C2659029395Bdf 103 true
	// 1 true waybill: error 160
}
