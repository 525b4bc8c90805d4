package keccak_test

import (
	"fmt"

	"waybill/keccak"
)

// As README.md has it.
func Example() {
	whole := keccak.Sum([]byte("transfer"), []byte("(address,uint256)"))
	var sponge keccak.Sponge
	for _, piece := range []string{"transfer", "(address,uint256)"} {
		sponge.Write([]byte(piece))
	}
	fmt.Println(sponge.Sum() == whole)
	fmt.Printf("%x\n", whole[:4])
	// Output:
	// true
	// a9059cbb
}
