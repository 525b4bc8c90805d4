package rlp_test

import (
	"fmt"

	"waybill/api"
	"waybill/rlp"
	"waybill/u256"
)

// As README.md has it.
func Example() {
	item := rlp.List(rlp.Text([]byte("cat")), rlp.Number(u256.From(1024)))
	text, e := rlp.Encode(item)
	if e != api.OK {
		fmt.Println(e)
		return
	}
	again, _ := rlp.Decode(text)
	value, _ := rlp.GetSmall(again.Items[1])
	parts, _ := rlp.Parts(text)
	same, _ := rlp.Join(parts...)
	_, short := rlp.Decode(text[:3])
	fmt.Printf("%x %d %x %x %v", text, value, parts, same, short)
	// Output: c783636174820400 1024 [83636174 820400] c783636174820400 waybill: error 70
}
