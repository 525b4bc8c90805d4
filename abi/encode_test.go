package abi_test

import (
	"bytes"
	"fmt"
	"slices"
	"strings"
	"testing"

	"waybill/abi"
	"waybill/api"
	"waybill/chance"
)

// P22.3, P22.4: rows and their bytes, the chapter's examples 3 to 5 among them.
func TestRows(t *testing.T) {
	for _, c := range []struct {
		types  []string
		values []api.Value
		want   string
	}{
		{nil, nil, ""},
		{[]string{"uint8"}, all(num(3)), words(3)},
		{[]string{"bytes3"}, all(text("abc")), words("abc")},
		{[]string{"bytes"}, all(text("dave")), words(32, 4, "dave")},
		{[]string{"uint16[]", "bool"}, all(row(num(1), num(2)), num(1)), words(64, 1, 2, 1, 2)},
		{[]string{"bytes"}, all(text("")), words(32, 0)},
		{[]string{"string"}, all(text(strings.Repeat("z", 32))), words(32, 32, strings.Repeat("z", 32))},
		{[]string{"string"}, all(text(strings.Repeat("z", 33))), words(32, 33, strings.Repeat("z", 32), "z")},
		{[]string{"int8", "int256"}, all(minus(1), minus(2)), strings.Repeat("\xff", 63) + "\xfe"},
		{[]string{"bool[]"}, all(row()), words(32, 0)},
		{[]string{"string[]"}, all(row()), words(32, 0)},
		{[]string{"bool[2]", "bool"}, all(row(num(0), num(1)), num(1)), words(0, 1, 1)},
		{[]string{"(bool,bytes2)[2]", "string"}, all(row(row(num(1), text("ab")), row(num(0), text("cd"))), text("x")), words(1, "ab", 0, "cd", 160, 1, "x")},
		{[]string{"string[2]"}, all(row(text("a"), text("bc"))), words(32, 64, 128, 1, "a", 2, "bc")},
		{[]string{"string[]"}, all(row(text("a"), text("bc"))), words(32, 2, 64, 128, 1, "a", 2, "bc")},
		{[]string{"uint8[][]"}, all(row(row(), row(num(5)))), words(32, 2, 64, 96, 0, 1, 5)},
		{[]string{"uint8[2][]"}, all(row(row(num(1), num(2)), row(num(3), num(4)))), words(32, 2, 1, 2, 3, 4)},
		{[]string{"uint8[][2]"}, all(row(row(num(1)), row(num(2), num(3)))), words(32, 64, 128, 1, 1, 2, 2, 3)},
		{[]string{"uint8", "(uint8,bytes)", "bytes", "uint8"}, all(num(1), row(num(2), text("x")), text("y"), num(3)), words(1, 128, 256, 3, 2, 64, 1, "x", 1, "y")},
		{[]string{"((string))"}, all(row(row(text("x")))), words(32, 32, 32, 1, "x")},
		{[]string{"(bool)[]"}, all(row(row(num(1)), row(num(0)))), words(32, 2, 1, 0)},
	} {
		b, e := abi.Encode(c.types, c.values)
		if string(b) != c.want || e != api.OK {
			t.Errorf("P22.3: %v: %x, %d, want %x", c.types, b, e, c.want)
		}
		l, f := abi.Decode(c.types, []byte(c.want))
		if f != api.OK || !same(l, c.values) {
			t.Errorf("P22.4: %v: %v, %d", c.types, l, f)
		}
		if m, e := modelEncode(c.types, c.values); string(m) != c.want || e != api.OK {
			t.Errorf("model: %v: %x, %d", c.types, m, e)
		}
	}
}

// P22.3: the errors, in their order.
func TestEncodeErrors(t *testing.T) {
	long := api.Value{Data: make([]byte, api.MaxInput)}
	for _, c := range []struct {
		types  []string
		values []api.Value
		e      api.Errno
	}{
		{[]string{"uint7"}, nil, api.ErrAbiType},
		{[]string{"uint8", ""}, all(num(256), num(1), num(2)), api.ErrAbiType},
		{[]string{"bytes", "x"}, all(long), api.ErrAbiType},
		{[]string{"bool[65535]", "bool[2]"}, nil, api.ErrAbiType},
		{[]string{"bool[65535]", "string", "bytes"}, nil, api.ErrAbiType},
		{[]string{"bool[65535]", "string"}, nil, api.ErrAbiKind},
		{[]string{"uint8"}, nil, api.ErrAbiKind},
		{nil, all(num(1)), api.ErrAbiKind},
		{[]string{"uint8"}, all(num(256), num(256)), api.ErrAbiKind},
		{[]string{"uint8", "bool"}, all(num(256), text("x")), api.ErrAbiWide},
		{[]string{"uint8", "bool"}, all(num(255), text("x")), api.ErrAbiKind},
		{[]string{"bytes", "bool"}, all(long, num(2)), api.ErrAbiWide},
		{[]string{"bytes", "bool"}, all(long, num(1)), api.ErrLong},
		{[]string{"bytes32", "bytes"}, all(text(strings.Repeat("x", 32)), long), api.ErrLong},
		{[]string{"(bytes,string)[]"}, all(row(row(text("x"), long))), api.ErrLong},
	} {
		if b, e := abi.Encode(c.types, c.values); e != c.e || len(b) != 0 {
			t.Errorf("P22.3: %.60v: %d, want %d", c.types, e, c.e)
		}
		if _, e := modelEncode(c.types, c.values); e != c.e {
			t.Errorf("model: %.60v: %d, want %d", c.types, e, c.e)
		}
	}
}

// P22.3, P22.4, P22.6: the widths of a row's types together are at most 65536; the lists and tuples of each may be 32 deep.
func TestRowWidths(t *testing.T) {
	deep := "bool" + strings.Repeat("[]", 31)
	for _, c := range []struct {
		types []string
		fits  bool
	}{
		{slices.Repeat([]string{"bool"}, 65536), true},
		{slices.Repeat([]string{"bool"}, 65537), false},
		{slices.Repeat([]string{"bool[]"}, 65536), true},
		{slices.Repeat([]string{"bool[]"}, 65537), false},
		{slices.Repeat([]string{"bool"}, 100000), false},
		{[]string{"bool[65535]", "bool"}, true},
		{[]string{"bool[65535]", "bool[]"}, true},
		{[]string{"bool", "bool[65535]", "bool"}, false},
		{[]string{"bool[65535]", "bool[65535]"}, false},
		{slices.Repeat([]string{"bool[32]"}, 2048), true},
		{slices.Repeat([]string{"bool[32]"}, 2049), false},
	} {
		want := api.ErrAbiType
		if c.fits {
			want = api.ErrAbiKind // no values
		}
		_, e := abi.Encode(c.types, nil)
		_, f := abi.Packed(c.types, nil)
		if e != want || f != want {
			t.Errorf("%d types of %s: %d, %d, want %d", len(c.types), c.types[0], e, f, want)
		}
		if c.fits {
			want = api.ErrAbiShort
		}
		if _, e := abi.Decode(c.types, nil); e != want {
			t.Errorf("P22.4: %d types of %s: %d, want %d", len(c.types), c.types[0], e, want)
		}
	}
	for _, s := range []string{deep + "[]", "(" + deep + ")", "(" + deep + ",bool)"} {
		m, _ := modelType(s)
		values := []api.Value{row()}
		if m.base == "tuple" {
			values = []api.Value{row(row())}
		}
		if len(m.inner) == 2 {
			values = []api.Value{row(row(), num(1))}
		}
		b, e := abi.Encode([]string{s}, values)
		l, f := abi.Decode([]string{s}, b)
		if e != api.OK || f != api.OK || !same(l, values) {
			t.Errorf("P22.3: %.20s: %d, %d", s, e, f)
		}
	}
}

// P22.3, P22.4: a whole row of the greatest width.
func TestWideRow(t *testing.T) {
	types := []string{"uint16[65535]", "bool"}
	items := make([]api.Value, 65535)
	for i := range items {
		items[i] = num(uint64(i))
	}
	values := all(row(items...), num(1))
	b, e := abi.Encode(types, values)
	want, f := modelEncode(types, values)
	if e != api.OK || f != api.OK || !bytes.Equal(b, want) || len(b) != 65536*32 {
		t.Fatalf("P22.3: %d bytes, %d", len(b), e)
	}
	l, e := abi.Decode(types, b)
	if e != api.OK || !same(l, values) {
		t.Errorf("P22.4: %d", e)
	}
}

// P22.3, P0.7: just MaxInput bytes are answered, one word more is not.
func TestEncodeLong(t *testing.T) {
	for _, c := range []struct {
		types []string
		of    func(n int) []api.Value // whose bytes are n words
	}{
		{[]string{"bytes"}, func(n int) []api.Value { return all(api.Value{Data: make([]byte, 32*(n-2))}) }},
		{[]string{"bytes"}, func(n int) []api.Value { return all(api.Value{Data: make([]byte, 32*(n-3)+1)}) }},
		{[]string{"bool", "string"}, func(n int) []api.Value { return all(num(1), api.Value{Data: make([]byte, 32*(n-3))}) }},
		{[]string{"bool[]"}, func(n int) []api.Value { return all(row(make([]api.Value, n-2)...)) }},
		{[]string{"bytes[]"}, func(n int) []api.Value {
			return all(row(api.Value{Data: make([]byte, 32*(n-8))}, api.Value{}, api.Value{Data: make([]byte, 1)[:0]}))
		}},
	} {
		most := api.MaxInput / 32
		for n := most - 1; n <= most+2; n++ {
			values := c.of(n)
			b, e := abi.Encode(c.types, values)
			switch {
			case n <= most && (e != api.OK || len(b) != 32*n):
				t.Errorf("P22.3: %v of %d words: %d bytes, %d", c.types, n, len(b), e)
			case n > most && (e != api.ErrLong || len(b) != 0):
				t.Errorf("P22.3: %v of %d words: %d bytes, %d", c.types, n, len(b), e)
			}
			if n == most {
				l, e := abi.Decode(c.types, b)
				if e != api.OK || !same(l, values) {
					t.Errorf("P22.5: %v of %d words: %d", c.types, n, e)
				}
			}
		}
	}
}

// P22.3, P22.5: rows by chance; Decode tells the values again.
func TestEncodeByChance(t *testing.T) {
	r := chance.Row(2204)
	for range 5000 {
		types, values := anyRow(&r)
		want, e := modelEncode(types, values)
		b, f := abi.Encode(types, values)
		if e != api.OK || f != api.OK || !bytes.Equal(b, want) {
			t.Fatalf("P22.3: %v of %v: %x, %d, want %x", values, types, b, f, want)
		}
		l, e := abi.Decode(types, b)
		if e != api.OK || !same(l, values) {
			t.Fatalf("P22.5: %v: %v, %d, want %v", types, l, e, values)
		}
	}
}

// P22.3: rows by chance with spoilt types and values, and too many or too few of them.
func TestEncodeSpoilt(t *testing.T) {
	r := chance.Row(2205)
	seen := map[api.Errno]int{}
	for range 5000 {
		types, values := anyRow(&r)
		if len(values) > 0 {
			for range r.Below(3) {
				spoil(&r, &values[r.Below(len(values))])
			}
		}
		switch r.Below(8) {
		case 0:
			values = append(values, num(1))
		case 1:
			values = values[:len(values)/2]
		case 2:
			types = append(types, "uint9")
		}
		want, e := modelEncode(types, values)
		b, f := abi.Encode(types, values)
		if f != e || !bytes.Equal(b, want) {
			t.Fatalf("P22.3: %v of %v: %x, %d, want %x, %d", values, types, b, f, want, e)
		}
		seen[e]++
	}
	for _, e := range []api.Errno{api.OK, api.ErrAbiType, api.ErrAbiKind, api.ErrAbiWide} {
		if seen[e] < 100 {
			t.Errorf("seen: %v", seen)
		}
	}
}

// P22.3, P22.5: each type of numbers and of texts, alone, in a list and in a tuple, with its least and greatest value.
func TestEveryTypeBothWays(t *testing.T) {
	r := chance.Row(2206)
	bases := []string{"uint", "int", "address", "bool", "bytes", "string"}
	for n := 1; n <= 32; n++ {
		bases = append(bases, fmt.Sprintf("uint%d", 8*n), fmt.Sprintf("int%d", 8*n), fmt.Sprintf("bytes%d", n))
	}
	for _, s := range bases {
		for _, s := range []string{s, s + "[]", s + "[3]", "(" + s + ",bool)", "(bytes," + s + ")[]", s + "[2][]", s + "[][2]"} {
			m, ok := modelType(s)
			if !ok {
				t.Fatalf("model: %s", s)
			}
			for range 20 {
				values := all(num(1), m.any(&r), text("end"))
				types := []string{"bool", s, "string"}
				b, e := abi.Encode(types, values)
				want, _ := modelEncode(types, values)
				l, f := abi.Decode(types, b)
				if e != api.OK || f != api.OK || !bytes.Equal(b, want) || !same(l, values) {
					t.Fatalf("P22.5: %s of %v: %x, %d, %v, %d", s, values, b, e, l, f)
				}
			}
		}
	}
}
