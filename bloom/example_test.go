package bloom_test

import (
	"fmt"

	"waybill/api"
	"waybill/bloom"
	"waybill/keccak"
)

// As README.md has it.
func Example() {
	topic := keccak.Sum([]byte("Transfer(address,address,uint256)"))
	maker := api.Address{0x2a}
	filter := bloom.Of(maker[:], topic[:])
	there := bloom.Has(filter, topic[:])
	other := bloom.Has(filter, []byte("another"))
	all := bloom.Union(filter, bloom.Of([]byte("another")))
	inside := bloom.Within(filter, all)
	same, e := bloom.Make(bloom.Bits(filter))
	_, wrong := bloom.Make([]int{2048})
	fmt.Println(bloom.Places(topic[:]), bloom.Bits(filter), bloom.Count(all))
	fmt.Println(there, other, inside, same == filter && e == api.OK, wrong)
	// Output:
	// [1443 481 1060] [481 529 974 1060 1206 1443] 9
	// true false true true waybill: error 1
}
