package trie_test

import (
	"fmt"

	"waybill/api"
	"waybill/trie"
)

// As README.md has it.
func Example() {
	t := trie.New()
	if e := t.Put([]byte("dog"), []byte("puppy")); e != api.OK {
		fmt.Println(e)
		return
	}
	t.Put([]byte("do"), []byte("verb"))
	before := t.Copy()
	t.Put([]byte("horse"), []byte("stallion"))
	t.Delete([]byte("horse"))
	same := t.Root() == before.Root()
	value, there := t.Get([]byte("do"))
	for key, value := range t.Each() {
		fmt.Printf("%s %s\n", key, value)
	}
	way := t.Nodes([]byte("dog"))
	list, _ := trie.ListRoot([][]byte{[]byte("a"), []byte("b")})
	none := t.Put([]byte("cat"), nil)
	fmt.Println(same, string(value), there, len(way), none)
	fmt.Printf("%x\n", list[:4])
	// Output:
	// do verb
	// dog puppy
	// true verb true 1 waybill: error 121
	// 60bf70c1
}
