package abi_test

import (
	"fmt"

	"waybill/abi"
	"waybill/api"
	"waybill/u256"
)

// As README.md has it.
func Example() {
	number := func(v uint64) api.Value { return api.Value{Num: u256.From(v)} }
	values := []api.Value{number(7), {Items: []api.Value{number(1), number(2)}}, {Data: []byte("dave")}}
	call, e := abi.Call("pay(address,uint16[],string)", values)
	if e != api.OK {
		fmt.Println(e)
		return
	}
	again, _ := abi.Args("pay(address,uint16[],string)", call)
	_, other := abi.Args("pay(address)", call)
	own, types, _ := abi.Signature("pay(address,uint[],string)")
	static, words, _ := abi.Static("(bool,bytes4)[2]")
	row, _ := abi.Encode([]string{"uint8", "bytes"}, []api.Value{number(3), {Data: []byte("dave")}})
	row[32]++
	_, place := abi.Decode([]string{"uint8", "bytes"}, row)
	tight, _ := abi.Packed([]string{"uint16", "string"}, []api.Value{number(3), {Data: []byte("dave")}})
	topic, _ := abi.Topic("Transfer(address,address,uint)")
	wide := abi.Check("uint8", number(256))
	_, none := abi.Type("uint7")
	fmt.Printf("%d %x %d %s\n", len(call), call[:4], again[0].Num[0], again[2].Data)
	fmt.Println(other, own, types, static, words)
	fmt.Printf("%d %v %x %x\n", len(row), place, tight, topic[:4])
	fmt.Println(wide, none)
	// Output:
	// 260 71af93a1 7 dave
	// waybill: error 221 pay(address,uint256[],string) [address uint256[] string] true 4
	// 128 waybill: error 225 000364617665 ddf252ad
	// waybill: error 222 waybill: error 220
}
