package ecdsa_test

import (
	"fmt"

	"waybill/api"
	"waybill/curve"
	"waybill/ecdsa"
	"waybill/keccak"
	"waybill/u256"
)

// As README.md has it.
func Example() {
	digest := keccak.Sum([]byte("abc"))
	signature, e := ecdsa.Sign(u256.From(1), digest)
	if e != api.OK {
		fmt.Println(e)
		return
	}
	signer, _ := ecdsa.Recover(digest, signature)
	own, _ := ecdsa.Verify(signer, digest, signature)
	short, _ := ecdsa.Pack(signature)
	same, _ := ecdsa.Unpack(short)
	_, none := ecdsa.Sign(u256.From(0), digest)
	fmt.Printf("%v %v %x %v %v", signer == curve.G(), own, short[:4], same == signature, none)
	// Output: true true e6cbd687 true waybill: error 60
}
