package block_test

import (
	"fmt"

	"waybill/api"
	"waybill/block"
	"waybill/header"
	"waybill/receipt"
	"waybill/signing"
	"waybill/u256"
)

// As README.md has it.
func Example() {
	payment, e := signing.Sign(api.Tx{Type: api.TypeDynamic, Chain: 1, Cap: u256.From(100), Gas: 21000, To: api.Address{19: 7}}, u256.From(1))
	if e != api.OK {
		fmt.Println(e)
		return
	}
	draft := api.Block{Header: api.Header{Number: 7, Limit: 30000000, Tail: api.TailWithdrawals}, Txs: []api.Tx{payment}, Drawn: true, Withdrawals: []api.Withdrawal{{Index: 1, Validator: 2, Amount: 300}}}
	sealed, e := block.Seal(draft)
	if e != api.OK {
		fmt.Println(e)
		return
	}
	fits := block.Check(sealed)
	paper, _ := receipt.Make(api.TypeDynamic, 1, 21000, nil)
	sealed.Header.Used = 21000
	sealed.Header.ReceiptRoot, _ = block.ReceiptRoot([]api.Receipt{paper})
	done := block.CheckReceipts(sealed, []api.Receipt{paper})
	text, _ := block.Encode(sealed)
	again, _ := block.Decode(text)
	name, _ := header.Hash(again.Header)
	root, _ := block.TxRoot(again.Txs)
	uncles, _ := block.UncleHash(nil)
	again.Withdrawals[0].Amount++
	wrong := block.Check(again)
	sealed.Drawn = false
	_, none := block.Encode(sealed)
	fmt.Println(fits == api.OK, done == api.OK, len(text), root == sealed.Header.TxRoot, uncles == sealed.Header.Uncles)
	fmt.Printf("%x %x %x %x\n", name[:4], root[:4], uncles[:4], again.Header.Withdrawals[:4])
	fmt.Println(wrong, none)
	// Output:
	// true true 673 true true
	// f1b2c631 300182c9 1dcc4de8 d8f61e75
	// waybill: error 203 waybill: error 206
}
