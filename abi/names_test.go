package abi_test

import (
	"bytes"
	"encoding/hex"
	"slices"
	"strings"
	"testing"

	"waybill/abi"
	"waybill/api"
	"waybill/chance"
	"waybill/keccak"
)

// checkName holds all that is told of a signature against the model.
func checkName(t *testing.T, s string) bool {
	t.Helper()
	want, list, ok := modelSignature(s)
	own, types, e := abi.Signature(s)
	topic, f := abi.Topic(s)
	selector, g := abi.Selector(s)
	if !ok {
		_, h := abi.Call(s, all(num(1)))
		_, i := abi.Args(s, make([]byte, 3))
		if own != "" || len(types) != 0 || topic != (api.Hash{}) || selector != [4]byte{} {
			t.Errorf("P22.7: %.60q: %.60q, %v, %x, %x beside an error", s, own, types, topic, selector)
		}
		for _, e := range []api.Errno{e, f, g, h, i} {
			if e != api.ErrAbiType {
				t.Errorf("P22.7, P22.8: %.60q: %d", s, e)
			}
		}
		return false
	}
	digest := keccak.Sum([]byte(want))
	if own != want || !slices.Equal(types, modelOwn(list)) || topic != digest || !bytes.Equal(selector[:], digest[:4]) || e != api.OK || f != api.OK || g != api.OK {
		t.Errorf("P22.7: %.60q: %.60q, %.60v, %x, %x, %d, %d, %d", s, own, types, topic, selector, e, f, g)
	}
	return true
}

// P22.7: the chapter's example 7.
func TestSignatureExamples(t *testing.T) {
	for s, want := range map[string]string{"f(uint,int[2])": "f(uint256,int256[2])", "f()": "f()", "_$9((uint)[])": "_$9((uint256)[])", "$(bool)": "$(bool)", "Zz0aA(bool,(string,int8))": "Zz0aA(bool,(string,int8))"} {
		if own, _, e := abi.Signature(s); own != want || e != api.OK {
			t.Errorf("P22.7: %s: %s, %d", s, own, e)
		}
		checkName(t, s)
	}
	_, types, _ := abi.Signature("f(uint,(int,bool)[2],string)")
	if !slices.Equal(types, []string{"uint256", "(int256,bool)[2]", "string"}) {
		t.Errorf("P22.7: %v", types)
	}
	for _, s := range []string{"f", "f(uint", "1f()", "f()()", "", "()", "(bool)", "f(uint8,)", "f(,)", "f (uint8)", "f( )", "f(uint8)[]", "f(uint8)[2]", "f()[]", "f(())", "f-()", "f.g()", "f(uint8)x", "f(uint8) ", " f()", "f(uint8))", "f((uint8)", "f(uint7)", "f[]", "fuint8", "f)", "f(", "é()", "f\x00()", "9()", "f(uint8)()", "f()(uint8)", "f(uint8),g()"} {
		if checkName(t, s) {
			t.Errorf("P22.7: %s is a signature", s)
		}
	}
}

// P22.7: selectors and topics that are known from elsewhere (written down from memory).
func TestKnownNames(t *testing.T) {
	for s, want := range map[string]string{
		"transfer(address,uint256)":             "a9059cbb",
		"transfer(address,uint)":                "a9059cbb",
		"balanceOf(address)":                    "70a08231",
		"approve(address,uint256)":              "095ea7b3",
		"transferFrom(address,address,uint256)": "23b872dd",
		"totalSupply()":                         "18160ddd",
		"allowance(address,address)":            "dd62ed3e",
		"decimals()":                            "313ce567",
		"symbol()":                              "95d89b41",
		"name()":                                "06fdde03",
		"Error(string)":                         "08c379a0",
		"Panic(uint256)":                        "4e487b71",
		"supportsInterface(bytes4)":             "01ffc9a7",
		"multicall(bytes[])":                    "ac9650d8",
		"aggregate((address,bytes)[])":          "252dba42",
		"onERC721Received(address,address,uint256,bytes)":                                    "150b7a02",
		"swapExactTokensForTokens(uint,uint,address[],address,uint)":                         "38ed1739",
		"exactInputSingle((address,address,uint24,address,uint256,uint256,uint256,uint160))": "414bf389",
	} {
		selector, e := abi.Selector(s)
		if hex.EncodeToString(selector[:]) != want || e != api.OK {
			t.Errorf("P22.7: %s: %x, %d, want %s", s, selector, e, want)
		}
	}
	for s, want := range map[string]string{
		"Transfer(address,address,uint256)": "ddf252ad1be2c89b69c2b068fc378daa952ba7f163c4a11628f55a4df523b3ef",
		"Approval(address,address,uint256)": "8c5be1e5ebec7d5bd14f71427d1e84f3dd0314c0f7b2291e5b200ac8c7c3b925",
	} {
		topic, e := abi.Topic(s)
		if hex.EncodeToString(topic[:]) != want || e != api.OK {
			t.Errorf("P22.7: %s: %x, %d, want %s", s, topic, e, want)
		}
	}
}

// P22.8: the calls that the documents of Solidity show (written down from memory).
func TestKnownCalls(t *testing.T) {
	for _, c := range []struct {
		text   string
		values []api.Value
		want   string
	}{
		{"baz(uint32,bool)", all(num(69), num(1)), "\xcd\xcd\x77\xc0" + words(69, 1)},
		{"bar(bytes3[2])", all(row(text("abc"), text("def"))), "\xfc\xe3\x53\xf6" + words("abc", "def")},
		{"sam(bytes,bool,uint256[])", all(text("dave"), num(1), row(num(1), num(2), num(3))), "\xa5\x64\x3b\xf2" + words(0x60, 1, 0xa0, 4, "dave", 3, 1, 2, 3)},
		{"f(uint256,uint32[],bytes10,bytes)", all(num(0x123), row(num(0x456), num(0x789)), text("1234567890"), text("Hello, world!")), "\x8b\xe6\x52\x46" + words(0x123, 0x80, "1234567890", 0xe0, 2, 0x456, 0x789, 13, "Hello, world!")},
		{"g(uint256[][],string[])", all(row(row(num(1), num(2)), row(num(3))), row(text("one"), text("two"), text("three"))), "\x22\x89\xb1\x8c" + words(0x40, 0x140, 2, 0x40, 0xa0, 2, 1, 2, 1, 3, 3, 0x60, 0xa0, 0xe0, 3, "one", 3, "two", 5, "three")},
	} {
		b, e := abi.Call(c.text, c.values)
		if string(b) != c.want || e != api.OK {
			t.Errorf("P22.8: %s: %x, %d, want %x", c.text, b, e, c.want)
		}
		if l, e := abi.Args(c.text, []byte(c.want)); e != api.OK || !same(l, c.values) {
			t.Errorf("P22.8: %s: %v, %d", c.text, l, e)
		}
	}
}

// P22.7: every text of a few bytes around a name.
func TestEveryName(t *testing.T) {
	good := 0
	for c := range 256 {
		b := string([]byte{byte(c)})
		for _, s := range []string{"f()", "f(bool)", "f_1(bool,bytes)", "()", "(bool)"} {
			for at := range len(s) + 1 {
				if checkName(t, s[:at]+b+s[at:]) {
					good++
				}
			}
			for at := range s {
				checkName(t, s[:at]+b+s[at+1:])
			}
		}
	}
	if good < 64*4 {
		t.Errorf("only %d of them are signatures", good)
	}
}

// P22.7: signatures by chance, and with one byte less or doubled.
func TestNamesByChance(t *testing.T) {
	r := chance.Row(2213)
	for range 3000 {
		s := "a_$Z9"[:1+r.Below(5)] + "(" + strings.Join(anyTypes(&r, r.Below(4), 3), ",") + ")"
		if !checkName(t, s) {
			t.Fatalf("P22.7: %s is none", s)
		}
		at := r.Below(len(s))
		checkName(t, s[:at]+s[at+1:])
		checkName(t, s[:at]+s[at:at+1]+s[at:])
		checkName(t, s[:at])
		if t.Failed() {
			return
		}
	}
}

// P22.7: the limits: 4096 bytes in all, 32 deep with the arguments' own tuple, 65536 wide.
func TestNameLimits(t *testing.T) {
	for _, c := range []struct {
		text string
		ok   bool
	}{
		{strings.Repeat("f", 4094) + "()", true},
		{strings.Repeat("f", 4095) + "()", false},
		{"f" + longType(4095), true},
		{"f" + longType(4096), false},
		{"ff" + longType(4094), true},
		{"ff" + longType(4095), false},
		{"f(" + strings.Repeat("(", 31) + "bool" + strings.Repeat(")", 32), true},
		{"f(" + strings.Repeat("(", 32) + "bool" + strings.Repeat(")", 33), false},
		{"f(bool" + strings.Repeat("[]", 31) + ")", true},
		{"f(bool" + strings.Repeat("[]", 32) + ")", false},
		{"f(bool[65535],bool)", true},
		{"f(bool[65535],bool,bool)", false},
		{"f(bool[65535],bool[])", true},
		{"f(bool[65535],bool[65535])", false},
		{strings.Repeat("f", api.MaxInput+1), false},
	} {
		if checkName(t, c.text) != c.ok {
			t.Errorf("P22.7: %.30s of %d bytes: not %v", c.text, len(c.text), c.ok)
		}
	}
}

// P22.8: a type's own text that is longer than a type may be counts as it was read.
func TestLongOwnTypes(t *testing.T) {
	inner := longType(4000)
	s := "f(bool," + inner + ")"
	m, ok := modelType(inner)
	if !ok || len(m.own()) <= 4096 {
		t.Fatalf("model: %v, %d bytes", ok, len(m.own()))
	}
	r := chance.Row(2214)
	values := all(num(1), m.any(&r))
	b, e := abi.Call(s, values)
	l, f := abi.Args(s, b)
	if e != api.OK || f != api.OK || !same(l, values) {
		t.Errorf("P22.8: %d, %d", e, f)
	}
	_, types, e := abi.Signature(s)
	if e != api.OK || len(types) != 2 || types[1] != m.own() {
		t.Errorf("P22.7: %d types, %d", len(types), e)
	}
	if _, e := abi.Encode(types, values); e != api.ErrAbiType {
		t.Errorf("P22.3: that text is no type: %d", e)
	}
}

// P22.8: the errors of Call and Args, in their order.
func TestCallErrors(t *testing.T) {
	long := api.Value{Data: make([]byte, api.MaxInput-68)}
	for _, c := range []struct {
		text   string
		values []api.Value
		e      api.Errno
	}{
		{"f", all(num(256), num(1)), api.ErrAbiType},
		{"f(uint8)", all(num(256), num(1)), api.ErrAbiKind},
		{"f(uint8)", nil, api.ErrAbiKind},
		{"f()", all(num(1)), api.ErrAbiKind},
		{"f(uint8,bool)", all(num(256), text("x")), api.ErrAbiWide},
		{"f(uint8,bool)", all(num(255), text("x")), api.ErrAbiKind},
		{"f(bytes,bool)", all(long, num(2)), api.ErrAbiWide},
		{"f(bytes,bool)", all(long, num(1)), api.ErrLong},
		{"f(bytes)", all(long), api.ErrLong},
	} {
		if b, e := abi.Call(c.text, c.values); e != c.e || len(b) != 0 {
			t.Errorf("P22.8: Call(%s): %d, want %d", c.text, e, c.e)
		}
	}
	selector, _ := abi.Selector("f(bytes)")
	name := string(selector[:])
	other := string([]byte{selector[0], selector[1], selector[2], selector[3] ^ 1})
	many := strings.Repeat("\x00", api.MaxInput)
	for _, c := range []struct {
		text, data string
		e          api.Errno
	}{
		{"f", many + "x", api.ErrAbiType},
		{"f(bytes)", other + many, api.ErrLong},
		{"f(bytes)", many + "x", api.ErrLong},
		{"f(bytes)", many, api.ErrAbiKind},
		{"f(bytes)", "", api.ErrAbiShort},
		{"f(bytes)", "xxx", api.ErrAbiShort},
		{"f(bytes)", name[:3], api.ErrAbiShort},
		{"f(bytes)", "xxxx", api.ErrAbiKind},
		{"f(bytes)", other + words(32, 1, "x"), api.ErrAbiKind},
		{"f(bytes)", name, api.ErrAbiShort},
		{"f(bytes)", name + words(36, 1, "x"), api.ErrAbiPlace},
		{"f(bytes)", name + words(32, 1, "xx"), api.ErrAbiPad},
		{"f(bytes)", name + words(32, 1, "x", 0), api.ErrAbiRest},
		{"f(bytes)", name + words(32, 1, "x"), api.OK},
	} {
		if l, e := abi.Args(c.text, []byte(c.data)); e != c.e || e != api.OK && len(l) != 0 {
			t.Errorf("P22.8: Args(%s, %.80x): %d, want %d", c.text, c.data, e, c.e)
		}
	}
}

// P22.8, P0.7: a call of just as many bytes as may be: MaxInput is the selector's four and whole words, so 28 bytes stay.
func TestLongCalls(t *testing.T) {
	most := (api.MaxInput - 4) / 32 * 32
	values := all(api.Value{Data: make([]byte, most-64)})
	b, e := abi.Call("f(bytes)", values)
	if e != api.OK || len(b) != most+4 {
		t.Fatalf("P22.8: %d bytes, %d", len(b), e)
	}
	if l, e := abi.Args("f(bytes)", b); e != api.OK || !same(l, values) {
		t.Errorf("P22.8: %d", e)
	}
	values[0].Data = append(values[0].Data, 1)
	if b, e := abi.Call("f(bytes)", values); e != api.ErrLong || len(b) != 0 {
		t.Errorf("P22.8: %d bytes, %d", len(b), e)
	}
	if b, e := abi.Encode([]string{"bytes"}, values); e != api.OK || len(b) != api.MaxInput {
		t.Errorf("P22.3: %d bytes, %d", len(b), e)
	}
}

// P22.8: calls by chance: the selector, then what Encode tells; Args tells what Decode does.
func TestCallsByChance(t *testing.T) {
	r := chance.Row(2215)
	for range 3000 {
		types, values := anyRow(&r)
		s := "call(" + strings.Join(types, ",") + ")"
		_, list, _ := modelSignature(s)
		selector, _ := abi.Selector(s)
		if len(values) > 0 && r.Below(3) == 0 {
			spoil(&r, &values[r.Below(len(values))])
		}
		want, e := modelArguments(string(selector[:]), list, values)
		b, f := abi.Call(s, values)
		if f != e || !bytes.Equal(b, want) {
			t.Fatalf("P22.8: %s of %v: %x, %d, want %x, %d", s, values, b, f, want, e)
		}
		if f != api.OK {
			continue
		}
		if l, e := abi.Args(s, b); e != api.OK || !same(l, values) {
			t.Fatalf("P22.8: %s: %v, %d, want %v", s, l, e, values)
		}
		b[r.Below(len(b))] ^= 1 << r.Below(8)
		wrong, e := modelValues(list, string(b[4:]))
		if !bytes.Equal(b[:4], selector[:]) {
			wrong, e = nil, api.ErrAbiKind
		}
		if l, f := abi.Args(s, b); f != e || !same(l, wrong) {
			t.Fatalf("P22.8: %s, %x: %v, %d, want %v, %d", s, b, l, f, wrong, e)
		}
	}
}
