package receipt_test

import (
	"fmt"

	"waybill/api"
	"waybill/bloom"
	"waybill/keccak"
	"waybill/receipt"
)

// As README.md has it.
func Example() {
	token, transfer := api.Address{19: 1}, keccak.Sum([]byte("Transfer(address,address,uint256)"))
	said := api.Log{Address: token, Topics: []api.Hash{transfer, {31: 7}}, Data: []byte("hi")}
	paper, e := receipt.Make(api.TypeDynamic, 1, 21000, []api.Log{said})
	if e != api.OK {
		fmt.Println(e)
		return
	}
	text, _ := receipt.Encode(paper)
	again, _ := receipt.Decode(text)
	may := bloom.Has(again.Bloom, transfer[:])
	found := receipt.Find(again.Logs, []api.Address{token}, [][]api.Hash{{transfer}, nil})
	gas, _ := receipt.Gas([]api.Receipt{paper, {Used: 50000}})
	item, _ := receipt.LogItem(said)
	same, _ := receipt.ParseLog(item)
	again.Bloom[0] ^= 1
	wrong := receipt.Check(again)
	_, none := receipt.Make(5, 1, 21000, nil)
	fmt.Printf("%d %x %x\n", len(text), text[:11], text[len(text)-3:])
	fmt.Println(may, found, gas)
	fmt.Println(len(item.Items), string(same.Data), wrong, none)
	// Output:
	// 363 02f9016701825208b90100 826869
	// true [0] [21000 29000]
	// 3 hi waybill: error 173 waybill: error 170
}
