package proof_test

import (
	"fmt"

	"waybill/api"
	"waybill/proof"
	"waybill/trie"
)

// As README.md has it.
func Example() {
	t := trie.New()
	t.Put([]byte("dog"), []byte("puppy"))
	t.Put([]byte("horse"), []byte("stallion, of a name that is long"))
	root, dog, cat := t.Root(), []byte("dog"), []byte("cat")
	nodes, e := proof.Prove(t, dog)
	if e != api.OK {
		fmt.Println(e)
		return
	}
	value, there, _ := proof.Verify(root, dog, nodes)
	_, _, wrong := proof.Verify(root, dog, append(nodes, nodes[0]))
	all, _ := proof.Bundle(t, dog, cat, []byte("horse"))
	values, has, _ := proof.Check(root, [][]byte{cat, dog}, nodes)
	hash, more, _ := proof.Need(root, []byte("horse"), nodes)
	fmt.Println(len(nodes), string(value), there, wrong)
	fmt.Println(len(all), len(values), has, more)
	fmt.Printf("%x\n", hash[:4])
	// Output:
	// 2 puppy true waybill: error 133
	// 3 2 [false true] true
	// d0a44358
}
