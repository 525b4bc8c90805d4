package wire_test

import (
	"fmt"

	"waybill/api"
	"waybill/bloom"
	"waybill/receipt"
	"waybill/signing"
	"waybill/u256"
	"waybill/wire"
)

// As README.md has it.
func Example() {
	draft := api.Tx{Type: api.TypeDynamic, Chain: 1, Cap: u256.From(100), Gas: 21000, To: api.Address{19: 7}}
	signed, e := signing.Sign(draft, u256.From(1))
	if e != api.OK {
		fmt.Println(e)
		return
	}
	raw, _ := wire.EncodeTx(signed)
	kind, _ := wire.Kind(raw)
	hash, _ := wire.TxHash(raw)
	sender, _ := wire.Sender(raw)
	all, _ := wire.Senders([][]byte{raw, {0xc0}}, 8)
	body, _ := wire.EncodeTxs([]api.Tx{signed, signed})
	again, _ := wire.DecodeTxs(body)
	root, _ := wire.TxRoot(again)
	maker, topic := api.Address{19: 7}, api.Hash{31: 1}
	said, _ := receipt.Make(api.TypeDynamic, 1, 42000, []api.Log{{Address: maker, Topics: []api.Hash{topic}}})
	papers := []api.Receipt{{Type: api.TypeDynamic, Status: 1, Used: 21000}, said}
	list, _ := wire.EncodeReceipts(papers)
	same, _ := wire.DecodeReceipts(list)
	places, _ := wire.Filter(same, []api.Address{maker}, [][]api.Hash{{topic}})
	filter := wire.Bloom(same...)
	_, text := wire.DecodeTxs([]byte{0x80})
	_, none := wire.Senders(nil, 0)
	fmt.Println(len(raw), kind, all[0] == api.Sent{Hash: hash, Sender: sender}, all[1].Err)
	fmt.Printf("%x %x %x\n", hash[:4], sender[:4], root[:4])
	fmt.Println(len(body), len(again), len(list), places, bloom.Has(filter, topic[:]))
	fmt.Println(text, none)
	// Output:
	// 101 1 true waybill: error 151
	// c8278a8e 7e5f4552 0535994d
	// 208 2 604 [1] true
	// waybill: error 75 waybill: error 1
}
