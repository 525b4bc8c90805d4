package tool_test

import (
	"fmt"
	"strings"

	"waybill/tool"
)

// As README.md has it.
func Example() {
	script := `# A value in a trie, and what is refused.
put 0x646f67 0x7075707079
get 0x646f67
root
calc div 1 0
calc div 1
# A payment, signed with the key 1.
new 2
set chain 1
set gas 21000
set cap 100
set to 0x0000000000000000000000000000000000000007
signtx 0x0000000000000000000000000000000000000000000000000000000000000001`
	answers := strings.Split(tool.Run(script), "\n")
	raw := strings.TrimPrefix(answers[10], "ok ")
	told := tool.Run("tx " + raw)
	words, ok := tool.Parse("put  0x01 0x02")
	fmt.Println(strings.Join(answers[:5], "\n"))
	fmt.Println(len(raw), raw[:10])
	fmt.Print(told)
	fmt.Printf("%q %v\n", words, ok)
	// Output:
	// ok
	// ok 1 0x7075707079
	// ok 0xed6e08740e4a267eca9d4740f71f573e9aabbcc739b16a2fa6c1baed5ec21278
	// error 10
	// error 260
	// 204 0x02f86201
	// type 2
	// chain 1
	// nonce 0
	// gas 21000
	// value 0
	// to 0x0000000000000000000000000000000000000007
	// data 0x
	// hash 0xc8278a8e7610eb8af01fd99ad069737a6f2b92a67e36bf0e8dd7e40bd6cacc37
	// sender 0x7E5F4552091A69125d5DfCb7b8C2659029395Bdf
	// ok
	// ["put" "0x01" "0x02"] true
}
