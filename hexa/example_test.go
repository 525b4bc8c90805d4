package hexa_test

import (
	"fmt"

	"waybill/api"
	"waybill/hexa"
	"waybill/u256"
)

// As README.md has it.
func Example() {
	a, e := hexa.ParseAddress("0x7e5f4552091a69125d5dfcb7b8c2659029395bdf")
	if e != api.OK {
		fmt.Println(e)
		return
	}
	told := hexa.Checksum(a)
	_, typo := hexa.ParseAddress("0x7e5F4552091A69125d5DfCb7b8C2659029395Bdf")
	gas := hexa.Quantity(u256.From(21000))
	_, lead := hexa.ParseUint("0x05208")
	data, _ := hexa.ParseData("0x00ff")
	fmt.Println(told, typo, gas, lead, data)
	// Output: 0x7E5F4552091A69125d5DfCb7b8C2659029395Bdf waybill: error 84 0x5208 waybill: error 82 [0 255]
}
