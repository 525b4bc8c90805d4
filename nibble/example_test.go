package nibble_test

import (
	"fmt"

	"waybill/nibble"
)

// As README.md has it.
func Example() {
	row := nibble.Of([]byte{0x12, 0xab})
	packed, e := nibble.Pack(row[1:], true)
	rest, leaf, _ := nibble.Unpack(packed)
	shared := nibble.Common(row, []byte{1, 2, 11})
	first := nibble.Compare(row, []byte{1, 2, 11})
	key, _ := nibble.Key(row)
	_, none := nibble.Key(rest)
	fmt.Println(row, rest, leaf, shared, first, int(e))
	fmt.Printf("%x %x %v\n", packed, key, none)
	// Output:
	// [1 2 10 11] [2 10 11] true 2 -1 0
	// 32ab 12ab waybill: error 110
}
