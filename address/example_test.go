package address_test

import (
	"fmt"

	"waybill/address"
	"waybill/api"
	"waybill/hexa"
	"waybill/u256"
)

// As README.md has it.
func Example() {
	owner, e := address.OfKey(u256.From(1))
	if e != api.OK {
		fmt.Println(e)
		return
	}
	first := address.Create(owner, 0)
	row, _ := address.Row(owner, 0, 100)
	fixed := address.Create2(owner, api.Hash{}, []byte{0})
	_, none := address.OfKey(u256.From(0))
	fmt.Println(hexa.Checksum(owner), hexa.Checksum(first))
	fmt.Println(len(row), row[0] == first, hexa.Checksum(fixed), none)
	// Output:
	// 0x7E5F4552091A69125d5DfCb7b8C2659029395Bdf 0xF2E246BB76DF876Cef8b38ae84130F4F55De395b
	// 100 true 0xEB81701FEFbf48BC5BA1bc71972b6F799646b848 waybill: error 60
}
