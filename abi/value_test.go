package abi_test

import (
	"math/big"
	"strconv"
	"strings"
	"testing"

	"waybill/abi"
	"waybill/api"
	"waybill/chance"
)

// checkValue holds Check against the model.
func checkValue(t *testing.T, s string, v api.Value) api.Errno {
	t.Helper()
	m, ok := modelType(s)
	if !ok {
		t.Fatalf("model: %s is no type", s)
	}
	want := m.check(v)
	if e := abi.Check(s, v); e != want {
		t.Errorf("P22.2: Check(%.60s, %.200v) = %d, want %d", s, v, e, want)
	}
	return want
}

// P22.2: the chapter's example 6, and the order of what is asked.
func TestCheckExamples(t *testing.T) {
	both := api.Value{Num: api.U256{256}, Data: []byte("x")}
	for _, c := range []struct {
		text string
		v    api.Value
		e    api.Errno
	}{
		{"uint8", num(256), api.ErrAbiWide},
		{"int8", num(128), api.ErrAbiWide},
		{"int8", minus(128), api.OK},
		{"bool", num(2), api.ErrAbiWide},
		{"uint8", api.Value{Num: api.U256{1}, Data: []byte("x")}, api.ErrAbiKind},
		{"bytes4", text("abc"), api.ErrAbiWide},
		{"no type", both, api.ErrAbiType},
		{"uint8", both, api.ErrAbiKind},
		{"bytes4", both, api.ErrAbiKind},
		{"uint8", api.Value{Num: api.U256{256}, Items: all(num(1))}, api.ErrAbiKind},
		{"bool[2]", api.Value{Num: api.U256{1}, Items: all(num(2))}, api.ErrAbiKind},
		{"bool[2]", api.Value{Data: []byte{0}, Items: all(num(2))}, api.ErrAbiKind},
		{"bool[2]", row(text("x")), api.ErrAbiWide},
		{"bool[2]", row(text("x"), num(2)), api.ErrAbiKind},
		{"bool[2]", row(num(2), text("x")), api.ErrAbiWide},
		{"bool[]", row(num(1), num(0), num(2), text("x")), api.ErrAbiWide},
		{"(bool,(bool,bytes2))", row(num(1), row(num(1), text("a"))), api.ErrAbiWide},
		{"(bool,(bool,bytes2))", row(num(2), row(num(1), num(1))), api.ErrAbiWide},
		{"(bool,(bool,bytes2))", row(num(1), row(num(2), num(1))), api.ErrAbiWide},
		{"(bool,(bool,bytes2))", row(num(1), row(num(1), num(1))), api.ErrAbiKind},
		{"(bool,(bool,bytes2))", row(num(2), num(1)), api.ErrAbiWide},
		{"(bool,bytes2)[][2]", row(row(), row(row(num(1), text("ab")))), api.OK},
		{"(bool,bytes2)[][2]", row(row(), row(row(num(1), text("ab")), row(num(1)))), api.ErrAbiWide},
		{"(bool,bool)", row(num(1), num(1), num(1)), api.ErrAbiWide},
		{"(bool,bool)", row(), api.ErrAbiWide},
		{"(bool,bool)", num(1), api.ErrAbiKind},
	} {
		if e := abi.Check(c.text, c.v); e != c.e {
			t.Errorf("P22.2: Check(%s, %v) = %d, want %d", c.text, c.v, e, c.e)
		}
	}
}

// P22.2: the numbers at the edges of every type of numbers.
func TestEveryNumber(t *testing.T) {
	types := []string{"uint", "int", "address", "bool"}
	for bits := 8; bits <= 256; bits += 8 {
		types = append(types, "uint"+strconv.Itoa(bits), "int"+strconv.Itoa(bits))
	}
	for _, s := range types {
		seen := map[api.Errno]int{}
		for n := range 257 {
			for _, x := range []*big.Int{power(n), new(big.Int).Sub(power(256), power(n))} {
				for d := int64(-2); d <= 2; d++ {
					seen[checkValue(t, s, bigNum(plus(x, d)))]++
				}
			}
		}
		if seen[api.OK] == 0 || seen[api.ErrAbiWide] == 0 && s != "uint" && s != "int" && s != "uint256" && s != "int256" {
			t.Errorf("%s: %v", s, seen)
		}
	}
}

// P22.2: texts of every length, for every width.
func TestEveryWidth(t *testing.T) {
	types := []string{"bytes", "string"}
	for n := 1; n <= 32; n++ {
		types = append(types, "bytes"+strconv.Itoa(n))
	}
	for _, s := range types {
		for n := range 70 {
			checkValue(t, s, text(strings.Repeat("\x00", n)))
		}
	}
	if e := abi.Check("bytes", api.Value{Data: make([]byte, api.MaxInput+1)}); e != api.OK {
		t.Errorf("P22.2: a text of any length is one: %d", e)
	}
}

// P22.2: each field that is to be none, filled with something, on a value that is right without it or wrong.
func TestEveryField(t *testing.T) {
	for _, s := range []string{"uint8", "int8", "address", "bool", "bytes2", "bytes", "string", "bool[]", "bool[2]", "string[2]", "(bool)", "(bool,string)"} {
		for mask := range 8 {
			for n := range 4 {
				var v api.Value
				if mask&1 != 0 {
					v.Num = api.U256{3: uint64(n)}
				}
				if mask&2 != 0 {
					v.Data = make([]byte, n)
				}
				if mask&4 != 0 {
					v.Items = make([]api.Value, n)
				}
				checkValue(t, s, v)
			}
		}
	}
	for limb := range 4 { // a number above zero, wherever its bits are
		v := api.Value{}
		v.Num[limb] = 1
		for _, s := range []string{"bytes", "bool[]", "string[]"} {
			if e := abi.Check(s, v); e != api.ErrAbiKind {
				t.Errorf("P22.2: %s: %d", s, e)
			}
		}
	}
}

// P22.2: values by chance, right ones and spoilt ones.
func TestValuesByChance(t *testing.T) {
	r := chance.Row(2203)
	seen := map[api.Errno]int{}
	for range 5000 {
		s := anyType(&r, 4)
		m, _ := modelType(s)
		v := m.any(&r)
		if e := abi.Check(s, v); e != api.OK {
			t.Fatalf("P22.2: Check(%s, %v) = %d", s, v, e)
		}
		for range 3 {
			spoil(&r, &v)
			seen[checkValue(t, s, v)]++
		}
		if t.Failed() {
			return
		}
	}
	if seen[api.OK] < 100 || seen[api.ErrAbiKind] < 100 || seen[api.ErrAbiWide] < 100 {
		t.Errorf("seen: %v", seen)
	}
}

// P22.2, P0.4: a list without values and nil are the same.
func TestCheckEmpty(t *testing.T) {
	empty := api.Value{Data: []byte{}, Items: []api.Value{}}
	for _, s := range []string{"uint8", "bool", "bytes", "string", "bool[]", "string[]"} {
		if e, f := abi.Check(s, empty), abi.Check(s, api.Value{}); e != api.OK || f != api.OK {
			t.Errorf("P0.4: %s: %d, %d", s, e, f)
		}
	}
	for _, s := range []string{"bytes1", "bool[1]", "(bool)"} {
		if e, f := abi.Check(s, empty), abi.Check(s, api.Value{}); e != api.ErrAbiWide || f != api.ErrAbiWide {
			t.Errorf("P0.4: %s: %d, %d", s, e, f)
		}
	}
}

// P22.2, P0.1: a list that holds itself is gone into as deep as the type, not deeper.
func TestCheckRing(t *testing.T) {
	ring := row(num(0))
	ring.Items[0] = ring
	for deep := range 33 {
		s := "bool" + strings.Repeat("[]", deep)
		if e := abi.Check(s, ring); e != api.ErrAbiKind {
			t.Errorf("P22.2: %s: %d", s, e)
		}
		if _, e := abi.Encode([]string{s}, all(ring)); e != api.ErrAbiKind {
			t.Errorf("P22.3: %s: %d", s, e)
		}
	}
}
