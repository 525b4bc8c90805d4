package abi_test

import (
	"bytes"
	"strconv"
	"strings"
	"testing"

	"waybill/abi"
	"waybill/api"
	"waybill/chance"
)

// checkPacked holds Packed against the model.
func checkPacked(t *testing.T, types []string, values []api.Value) api.Errno {
	t.Helper()
	want, e := modelPacked(types, values)
	b, f := abi.Packed(types, values)
	if f != e || !bytes.Equal(b, want) {
		t.Errorf("P22.6: %.60v: %x, %d, want %x, %d", types, short(b), f, short(want), e)
	}
	return e
}

// P22.6: the chapter's example 8, and what each kind is packed to.
func TestPackedExamples(t *testing.T) {
	for _, c := range []struct {
		types  []string
		values []api.Value
		want   string
	}{
		{[]string{"int16", "bytes1", "uint16", "string"}, all(minus(1), text("\x42"), num(3), text("Hello, world!")), "\xff\xff\x42\x00\x03Hello, world!"},
		{[]string{"bool", "address"}, all(num(1), num(255)), "\x01" + strings.Repeat("\x00", 19) + "\xff"},
		{[]string{"uint8[]", "bytes2[2]", "bytes"}, all(row(num(1), num(2)), row(text("ab"), text("cd")), text("z")), words(1, 2, "ab", "cd") + "z"},
		{[]string{"bool[]", "string", "int8[1]"}, all(row(), text(""), row(minus(1))), strings.Repeat("\xff", 32)},
		{[]string{"uint", "int24"}, all(num(1), minus(2)), words(1) + "\xff\xff\xfe"},
		{nil, nil, ""},
	} {
		b, e := abi.Packed(c.types, c.values)
		if string(b) != c.want || e != api.OK {
			t.Errorf("P22.6: %v: %x, %d, want %x", c.types, b, e, c.want)
		}
		checkPacked(t, c.types, c.values)
	}
}

// P22.6: the errors, in their order.
func TestPackedErrors(t *testing.T) {
	long := api.Value{Data: make([]byte, api.MaxInput)}
	for _, s := range []string{"(uint8)", "(string,bool)", "uint8[][]", "uint8[2][]", "uint8[][2]", "uint8[2][2]", "string[]", "bytes[]", "string[2]", "bytes[2]", "(uint8)[]", "(uint8)[2]", "uint7", ""} {
		for _, types := range [][]string{{s}, {"bool", s}, {s, "bool"}, {"bytes", "bool", s}} {
			if b, e := abi.Packed(types, all(long, num(2))); e != api.ErrAbiType || len(b) != 0 {
				t.Errorf("P22.6: %v: %d", types, e)
			}
		}
	}
	for _, c := range []struct {
		types  []string
		values []api.Value
		e      api.Errno
	}{
		{[]string{"uint8"}, nil, api.ErrAbiKind},
		{nil, all(num(1)), api.ErrAbiKind},
		{[]string{"uint8", "bool"}, all(num(256), text("x")), api.ErrAbiWide},
		{[]string{"uint8", "bool"}, all(num(1), text("x")), api.ErrAbiKind},
		{[]string{"bool[]"}, all(row(num(1), num(2))), api.ErrAbiWide},
		{[]string{"bytes", "bool"}, all(long, num(2)), api.ErrAbiWide},
		{[]string{"bytes", "bool"}, all(long, num(1)), api.ErrLong},
		{[]string{"bool", "string"}, all(num(1), long), api.ErrLong},
		{[]string{"bytes"}, all(api.Value{Data: make([]byte, api.MaxInput+1)}), api.ErrLong},
		{[]string{"bool[]"}, all(row(make([]api.Value, api.MaxInput/32+1)...)), api.ErrLong},
		{[]string{"bytes", "bytes"}, all(long, long), api.ErrLong},
	} {
		if b, e := abi.Packed(c.types, c.values); e != c.e || len(b) != 0 {
			t.Errorf("P22.6: %v: %d, want %d", c.types, e, c.e)
		}
	}
}

// P22.6, P0.7: just MaxInput bytes are answered, one more is not.
func TestPackedLong(t *testing.T) {
	for _, c := range []struct {
		types []string
		of    func(n int) []api.Value // whose last text has n bytes
		rest  int                     // bytes of the other values
	}{
		{[]string{"bytes"}, func(n int) []api.Value { return all(api.Value{Data: make([]byte, n)}) }, 0},
		{[]string{"bool", "string"}, func(n int) []api.Value { return all(num(1), api.Value{Data: make([]byte, n)}) }, 1},
		{[]string{"address", "bytes3", "bytes"}, func(n int) []api.Value { return all(num(1), text("abc"), api.Value{Data: make([]byte, n)}) }, 23},
		{[]string{"uint8[2]", "int24", "bytes"}, func(n int) []api.Value { return all(row(num(1), num(2)), num(1), api.Value{Data: make([]byte, n)}) }, 67},
		{[]string{"bool[]", "bytes"}, func(n int) []api.Value {
			return all(row(make([]api.Value, 1<<19)...), api.Value{Data: make([]byte, n)})
		}, 1 << 24},
	} {
		if b, e := abi.Packed(c.types, c.of(api.MaxInput-c.rest)); e != api.OK || len(b) != api.MaxInput {
			t.Errorf("P22.6: %v: %d bytes, %d", c.types, len(b), e)
		}
		if b, e := abi.Packed(c.types, c.of(api.MaxInput-c.rest+1)); e != api.ErrLong || len(b) != 0 {
			t.Errorf("P22.6: %v: %d bytes, %d", c.types, len(b), e)
		}
	}
}

// P22.6: every base, alone and in lists.
func TestPackedEveryBase(t *testing.T) {
	r := chance.Row(2211)
	bases := []string{"uint", "int", "address", "bool", "bytes", "string"}
	for n := 1; n <= 32; n++ {
		bases = append(bases, "uint"+strconv.Itoa(8*n), "int"+strconv.Itoa(8*n), "bytes"+strconv.Itoa(n))
	}
	for _, s := range bases {
		for _, s := range []string{s, s + "[]", s + "[3]"} {
			m, _ := modelType(s)
			for range 20 {
				checkPacked(t, []string{"bool", s, "string"}, all(num(1), m.any(&r), text("end")))
			}
		}
	}
}

// P22.6: rows by chance, right ones and spoilt ones.
func TestPackedByChance(t *testing.T) {
	r := chance.Row(2212)
	seen := map[api.Errno]int{}
	for range 10000 {
		types := anyTypes(&r, r.Below(4), r.Below(2))
		list, _ := modelRow(types)
		values := modelAny(list, &r)
		if len(values) > 0 && r.Below(2) == 0 {
			spoil(&r, &values[r.Below(len(values))])
		}
		seen[checkPacked(t, types, values)]++
		if t.Failed() {
			return
		}
	}
	for _, e := range []api.Errno{api.OK, api.ErrAbiType, api.ErrAbiKind, api.ErrAbiWide} {
		if seen[e] < 100 {
			t.Errorf("seen: %v", seen)
		}
	}
}
