package sha_test

import (
	"fmt"

	"waybill/sha"
)

// As README.md has it.
func Example() {
	code := sha.HMAC([]byte("key"), []byte("The "), []byte("valise"))
	var hasher sha.Hasher
	hasher.Write([]byte("a"))
	short := hasher.Sum()
	hasher.Write([]byte("bc"))
	long := hasher.Sum()
	fmt.Printf("%x %x %x\n", code[:4], short[:4], long[:4])
	fmt.Println(long == sha.Sum([]byte("abc")))
	// Output:
	// 7f3d2830 ca978112 ba7816bf
	// true
}
