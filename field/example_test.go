package field_test

import (
	"fmt"

	"waybill/api"
	"waybill/field"
	"waybill/u256"
)

// As README.md has it.
func Example() {
	third, e := field.Inverse(api.FieldN, u256.From(3))
	if e != api.OK {
		fmt.Println(e)
		return
	}
	seven, _ := field.Mul(api.FieldN, third, u256.From(21))
	root, _ := field.Root(u256.From(4))
	_, none := field.Root(u256.From(3))
	fmt.Println(u256.Text(seven), u256.Text(root), none)
	// Output: 7 2 waybill: error 41
}
