package fees_test

import (
	"fmt"

	"waybill/api"
	"waybill/fees"
	"waybill/u256"
)

// As README.md has it.
func Example() {
	payment := api.Tx{Type: api.TypeDynamic, Chain: 1, Tip: u256.From(2), Cap: u256.From(10), Gas: 30000, Value: u256.From(1000), Data: []byte{0, 1}}
	need, e := fees.Intrinsic(payment)
	if e != api.OK {
		fmt.Println(e)
		return
	}
	least, _ := fees.Floor(payment)
	enough := fees.Enough(payment)
	cost, _ := fees.Cost(payment)
	base := u256.From(9)
	price, tip, _ := fees.Price(payment, base)
	burnt, paid, _ := fees.Charge(payment, base, 21050)
	_, _, low := fees.Price(payment, u256.From(11))
	next, _ := fees.NextBase(u256.From(1000), 30000000, 30000000)
	excess, _ := fees.NextExcess(393216, 786432, 393216)
	blob, _ := fees.BlobBase(10485760, 3338477)
	fmt.Println(need, least, enough == api.OK, u256.Text(cost))
	fmt.Println(u256.Text(price), u256.Text(tip), u256.Text(burnt), u256.Text(paid), low)
	fmt.Println(u256.Text(next), excess, u256.Text(blob))
	// Output:
	// 21020 21050 true 301000
	// 10 1 189450 21050 waybill: error 180
	// 1125 786432 23
}
