package tool_test

import (
	"strings"
	"testing"
)

// P26.10: types, selectors and topics.
func TestContracts(t *testing.T) {
	wantTold(t,
		"abitype uint", "ok uint256",
		"abitype (int,uint8[3])[]", "ok (int256,uint8[3])[]",
		"abitype string", "ok string",
		"abitype bytes32", "ok bytes32",
		"abitype uint7", "error 220",
		"abitype ()", "error 220",
		"abitype Uint8", "error 220",
		"abitype uint8, ", "error 220",
		"abitype uint8 x", "error 260",
		"abitype (int, uint8)", "error 260", // a blank parts words
		"abitype", "error 260",
		"selector transfer(address,uint256)", "ok 0xa9059cbb",
		"selector transfer(address,uint)", "ok 0xa9059cbb",
		"selector f()", "ok 0x26121ff0",
		"selector x", "error 220",
		"selector transfer(address,uint256", "error 220",
		"selector transfer(address, uint256)", "error 260",
		"selector", "error 260",
		"topic Transfer(address,address,uint256)", "ok 0xddf252ad1be2c89b69c2b068fc378daa952ba7f163c4a11628f55a4df523b3ef",
		"topic Transfer(address,address,uint)", "ok 0xddf252ad1be2c89b69c2b068fc378daa952ba7f163c4a11628f55a4df523b3ef",
		"topic f()", "ok "+answer(nil, "keccak "+told([]byte("f()")))[3:],
		"topic x", "error 220",
		"topic 1f()", "error 220",
		"topic", "error 260",
		"topic f() f()", "error 260",
	)
	long := "f(" + strings.Repeat("uint8,", 680) + "uint8)"
	wantTold(t, "selector "+long, newModel().line("selector "+long), "abitype "+strings.Repeat("x", 5000), "error 220", "selector f("+strings.Repeat("uint8,", 700)+"uint8)", "error 220")
}
