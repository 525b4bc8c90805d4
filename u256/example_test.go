package u256_test

import (
	"fmt"

	"waybill/api"
	"waybill/u256"
)

// As README.md has it.
func Example() {
	price, e := u256.Parse("1000000007")
	if e != api.OK {
		fmt.Println(e)
		return
	}
	high, cost := u256.Mul(price, u256.From(21000))
	if high != u256.From(0) {
		fmt.Println(api.ErrNumLong)
		return
	}
	fmt.Println(u256.Text(cost))
	// Output: 21000000147000
}
