package abi_test

import (
	"strconv"
	"strings"
	"testing"

	"waybill/abi"
	"waybill/api"
	"waybill/chance"
)

// checkType holds what is told of a text against the model.
func checkType(t *testing.T, s string) {
	t.Helper()
	m, ok := modelType(s)
	own, e := abi.Type(s)
	static, n, f := abi.Static(s)
	switch {
	case !ok && (own != "" || e != api.ErrAbiType || static || n != 0 || f != api.ErrAbiType || abi.Check(s, api.Value{}) != api.ErrAbiType):
		t.Errorf("P22.1: %.60q is no type: %.60q, %d, %v, %d, %d", s, own, e, static, n, f)
	case ok && (own != m.own() || e != api.OK || static == m.dynamic() || n != m.head() || f != api.OK):
		t.Errorf("P22.1: %.60q: %.60q, %d, %v, %d, %d", s, own, e, static, n, f)
	}
}

// isType looks whether a text is a type, in the program and in the model.
func isType(t *testing.T, s string, want bool) {
	t.Helper()
	if _, ok := modelType(s); ok != want {
		t.Errorf("model: %.60q: %v", s, ok)
	}
	checkType(t, s)
}

// P22.1: the chapter's examples 1 and 2.
func TestTypeExamples(t *testing.T) {
	for _, c := range []struct {
		text, own string
		static    bool
		words     int
	}{
		{"uint", "uint256", true, 1},
		{"(int,uint8[3])[]", "(int256,uint8[3])[]", false, 1},
		{"uint8[3]", "uint8[3]", true, 3},
		{"(bool,bytes4)[2]", "(bool,bytes4)[2]", true, 4},
		{"string[2]", "string[2]", false, 1},
		{"bytes", "bytes", false, 1},
		{"string", "string", false, 1},
		{"uint8[]", "uint8[]", false, 1},
		{"(bool,string)", "(bool,string)", false, 1},
		{"((uint,int)[2],bool)[3]", "((uint256,int256)[2],bool)[3]", true, 15},
	} {
		own, e := abi.Type(c.text)
		static, n, f := abi.Static(c.text)
		if own != c.own || e != api.OK || static != c.static || n != c.words || f != api.OK {
			t.Errorf("P22.1: %s: %s, %d, %v, %d, %d", c.text, own, e, static, n, f)
		}
	}
	for _, s := range []string{"", "uint7", "uint08", "uint264", "bytes0", "bytes33", "uint8[0]", "uint8[01]", "()", "(uint8,)", "uint8 ", "Uint8", "address["} {
		isType(t, s, false)
	}
}

// P22.1: every word with every number behind it.
func TestEveryBase(t *testing.T) {
	for _, word := range []string{"uint", "int", "bytes", "address", "bool", "string", "byte", "fixed", "ufixed", "function", "tuple", "UINT", "u", ""} {
		for _, ahead := range []string{"", "0", "+", "-", " ", "0x"} {
			checkType(t, word+ahead)
			for n := range 300 {
				checkType(t, word+ahead+strconv.Itoa(n))
			}
		}
		for _, digits := range []string{"65536", "18446744073709551624", "18446744073709551617", "4294967304", "99999999999999999999999999", "8.0", "1e1", "٨"} {
			isType(t, word+digits, false)
		}
	}
}

// P22.1: lists of every count up to 70000.
func TestEveryCount(t *testing.T) {
	for n := range 70000 {
		s := "bool[" + strconv.Itoa(n) + "]"
		static, count, e := abi.Static(s)
		if want := n >= 1 && n <= 65535; want != (e == api.OK) || want != static || want && count != n {
			t.Fatalf("P22.1: %s: %v, %d, %d", s, static, count, e)
		}
	}
	for _, count := range []string{"00", "01", "065535", "65536", "18446744073709551617", "4294967297", "-1", "+1", " 1", "1 ", "1,", "1.", "a", "[", "(", "0x1"} {
		isType(t, "bool["+count+"]", false)
	}
}

// P22.1: every text of at most five of these words.
func TestEveryShortText(t *testing.T) {
	list := []string{"uint", "8", "(", ")", ",", "[", "]", "bytes", "1", "string", "0"}
	texts := []string{""}
	types := 0
	for range 5 {
		var next []string
		for _, s := range texts {
			for _, word := range list {
				next = append(next, s+word)
			}
		}
		texts = next
		for _, s := range texts {
			checkType(t, s)
			if _, ok := modelType(s); ok {
				types++
			}
		}
		if t.Failed() {
			return
		}
	}
	if types < 50 {
		t.Errorf("only %d of them are types", types)
	}
}

// P22.1: types by chance; their own text is a type's own text; with one byte more, less or another they are often none.
func TestTypesByChance(t *testing.T) {
	r := chance.Row(2201)
	for range 2000 {
		s := anyType(&r, 5)
		isType(t, s, true)
		own, _ := abi.Type(s)
		again, e := abi.Type(own)
		if again != own || e != api.OK {
			t.Fatalf("P22.1: %s is %s, then %s, %d", s, own, again, e)
		}
		at := r.Below(len(s))
		c := "()[],0128 uintbyes\x00"[r.Below(19)]
		checkType(t, s[:at]+s[at+1:])
		checkType(t, s[:at]+string(c)+s[at:])
		checkType(t, s[:at]+string(c)+s[at+1:])
		checkType(t, s[:at])
		checkType(t, s[at:])
		if t.Failed() {
			return
		}
	}
}

// P22.1: no byte but those of a type stands behind one, or ahead of it, or within.
func TestEveryByte(t *testing.T) {
	for c := range 256 {
		b := string([]byte{byte(c)})
		for _, s := range []string{"uint8[2]", "(bool,bytes)", "bytes3", "string[]"} {
			for at := range len(s) + 1 {
				checkType(t, s[:at]+b+s[at:])
			}
		}
	}
}

// nested tells a type so deep, of lists and tuples by chance.
func nested(r *chance.Row, deep int) string {
	s := "bool"
	for range deep {
		s = []string{s + "[]", s + "[1]", "(" + s + ")", "(uint8," + s + ")"}[r.Below(4)]
	}
	return s
}

// P22.1: 32 lists and tuples may lie within one another, 33 may not.
func TestDeep(t *testing.T) {
	r := chance.Row(2202)
	for range 300 {
		isType(t, nested(&r, 32), true)
		isType(t, nested(&r, 33), false)
		isType(t, nested(&r, 33+r.Below(200)), false)
		beside := "(" + nested(&r, 31) + "," + nested(&r, 31) + "," + nested(&r, r.Below(31)) + ")"
		isType(t, beside, true)
		isType(t, beside+"[]", false)
		isType(t, "("+nested(&r, r.Below(31))+","+nested(&r, 32)+")", false)
	}
	for _, c := range []struct{ ahead, behind string }{{"", "[]"}, {"", "[1]"}, {"(", ")"}} {
		for deep := range 40 {
			isType(t, strings.Repeat(c.ahead, deep)+"bool"+strings.Repeat(c.behind, deep), deep <= 32)
		}
	}
	isType(t, strings.Repeat("(", 4096), false)
	isType(t, strings.Repeat("[", 4096), false)
	isType(t, strings.Repeat("(", 2046)+"bool"+strings.Repeat(")", 2046), false)
}

// P22.1: a width of 65536 may be, of the whole and of each type within; a list of any number has the width 1.
func TestWidth(t *testing.T) {
	for _, s := range []string{"bool[65535]", "string[65535]", "bool[256][256]", "string[256][256]", "(bool,bool)[32768]", "(bool[65535],bool)", "(bool[65535],bytes)", "(bool[32768],bool[32768])", "(bool[256][256])", "bool[256][256][]", "(bool[256][256][],bool[65535])", "(bool[256][256])[][65535]", "bool[][65535]", "bool[1][2][4][8][16][64]"} {
		isType(t, s, true)
	}
	for _, s := range []string{"bool[65535][2]", "bool[257][256]", "string[257][256]", "bool[65535][65535]", "bool[65535][65535][65535][65535]", "bool[65535][65535][65535][65535][65535][65535][65535][65535]", "(bool,bool)[32769]", "(bool[65535],bool,bool)", "(bool[65535],bytes,string)", "(bool[32768],bool[32768],bool)", "(bool[257][256])", "bool[257][256][]", "(bool[257][256][],bool)", "(bool[65535],bool)[2]", "(bool[65535],bool)[][65535][2]", "((bool[65535],bool),bool)[]"} {
		isType(t, s, false)
	}
}

// longType tells a type whose text has just n bytes.
func longType(n int) string {
	s := "(" + strings.Repeat("uint,", (n-8)/5)
	return s + []string{"bytes4", "address", "bytes[2]", "bytes3[2]", "bytes[][2]"}[(n-8)%5] + ")"
}

// P22.1: a text of 4096 bytes may be a type, its own text may be longer; one of 4097 bytes is none.
func TestLongTexts(t *testing.T) {
	for n := 4080; n < 4120; n++ {
		s := longType(n)
		if len(s) != n {
			t.Fatalf("a text of %d bytes has %d", n, len(s))
		}
		isType(t, s, n <= 4096)
	}
	own, e := abi.Type(longType(4096))
	if e != api.OK || len(own) != 4096+3*817 {
		t.Errorf("P22.1: an own text of %d bytes, %d", len(own), e)
	}
	isType(t, own, false)
	for _, n := range []int{api.MaxInput, api.MaxInput + 1} {
		if _, e := abi.Type(strings.Repeat("(", n)); e != api.ErrAbiType {
			t.Errorf("P22.1: %d bytes: %d", n, e)
		}
	}
}
