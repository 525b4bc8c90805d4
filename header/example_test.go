package header_test

import (
	"fmt"

	"waybill/api"
	"waybill/header"
	"waybill/u256"
)

// As README.md has it.
func Example() {
	parent := api.Header{Number: 7, Limit: 30000000, Used: 30000000, Time: 1000, Tail: api.TailBaseFee, BaseFee: u256.From(1000)}
	text, e := header.Encode(parent)
	if e != api.OK {
		fmt.Println(e)
		return
	}
	again, _ := header.Decode(text)
	name, _ := header.Hash(again)
	next, e := header.Next(parent, 1012, api.TailBlobs)
	if e != api.OK {
		fmt.Println(e)
		return
	}
	fits := header.Child(parent, next)
	low, high := header.Bounds(parent.Limit)
	next.Time = 1000
	place, late := header.Chain([]api.Header{parent, next})
	_, none := header.Next(parent, 1012, api.TailNone)
	parent.Beacon = api.Hash{1}
	wrong := header.Check(parent)
	fmt.Println(len(text), again.Number, next.Parent == name, next.Number, u256.Text(next.BaseFee), fits == api.OK)
	fmt.Printf("%x\n", name[:4])
	fmt.Println(low, high, place, late, none, wrong)
	// Output:
	// 509 7 true 8 1125 true
	// 9925c49f
	// 29970705 30029295 1 waybill: error 194 waybill: error 193 waybill: error 191
}
