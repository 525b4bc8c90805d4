package access_test

import (
	"fmt"

	"waybill/access"
	"waybill/api"
	"waybill/hexa"
	"waybill/rlp"
	"waybill/u256"
)

// As README.md has it.
func Example() {
	token, cell := api.Address{19: 1}, api.Hash{31: 2}
	list := []api.AccessEntry{{Address: token, Keys: []api.Hash{cell}}}
	item, e := access.Item(list)
	if e != api.OK {
		fmt.Println(e)
		return
	}
	again, _ := access.Parse(item)
	named, warm := access.Warm(again, token, api.Hash{})
	_, wrong := access.Parse(rlp.Text(token[:]))
	signed, e := access.SignAuth(api.Auth{Chain: u256.From(1), Address: token}, u256.From(1))
	if e != api.OK {
		fmt.Println(e)
		return
	}
	owner, _ := access.Authority(signed)
	all, _ := access.AuthItem([]api.Auth{signed})
	same, _ := access.ParseAuth(all)
	signed.Parity = 2
	_, none := access.Authority(signed)
	size, _ := rlp.Size(item)
	allSize, _ := rlp.Size(all)
	fmt.Println(size, named, warm, wrong)
	fmt.Println(hexa.Checksum(owner), allSize, len(same), none)
	// Output:
	// 58 true false waybill: error 140
	// 0x7E5F4552091A69125d5DfCb7b8C2659029395Bdf 94 1 waybill: error 141
}
