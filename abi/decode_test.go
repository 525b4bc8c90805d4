package abi_test

import (
	"bytes"
	"math/big"
	"slices"
	"strings"
	"testing"

	"waybill/abi"
	"waybill/api"
	"waybill/chance"
)

// checkDecode holds Decode against the model, and P22.5 where it goes well.
func checkDecode(t *testing.T, types []string, data []byte) api.Errno {
	t.Helper()
	want, e := modelDecode(types, data)
	l, f := abi.Decode(types, data)
	if f != e || !same(l, want) {
		t.Errorf("P22.4: %.80v, %x: %.200v, %d, want %.200v, %d", types, short(data), l, f, want, e)
		return e
	}
	if f != api.OK {
		return e
	}
	for i, v := range l {
		if e := abi.Check(types[i], v); e != api.OK {
			t.Errorf("P22.5: Check(%s, %.200v) = %d", types[i], v, e)
		}
	}
	if b, e := abi.Encode(types, l); e != api.OK || !bytes.Equal(b, data) {
		t.Errorf("P22.5: %.80v: %x, %d, want %x", types, short(b), e, short(data))
	}
	return api.OK
}

// P22.4: the chapter's example 4, and the order of what is asked.
func TestDecodeExamples(t *testing.T) {
	top := plus(power(256), -1)
	for _, c := range []struct {
		types, data string
		e           api.Errno
	}{
		{"bytes", words(64, 0, 4, "dave"), api.ErrAbiPlace},
		{"bytes", words(32, 4, "dave")[:95] + "\x01", api.ErrAbiPad},
		{"bytes", words(32, 4, "dave")[:95], api.ErrAbiShort},
		{"bytes", words(32, 4, "dave") + "\x00", api.ErrAbiRest},
		{"bytes", words(32, 4, "dave\x01"), api.ErrAbiPad},
		{"bytes", words(32, 3, "dave"), api.ErrAbiPad},
		{"bytes", words(0, 4, "dave"), api.ErrAbiPlace},
		{"bytes", words(33, 4, "dave"), api.ErrAbiPlace},
		{"bytes", words(top, 4, "dave"), api.ErrAbiPlace},
		{"bytes", words(plus(power(64), 32), 4, "dave"), api.ErrAbiPlace},
		{"bytes", words(plus(power(255), 32), 4, "dave"), api.ErrAbiPlace},
		{"bytes", words(32, 33, "dave"), api.ErrAbiShort},
		{"bytes", words(32, top, "dave"), api.ErrAbiShort},
		{"bytes", words(32, plus(power(64), 4), "dave"), api.ErrAbiShort},
		{"bytes", words(32, plus(power(63), 4), "dave"), api.ErrAbiShort},
		{"bytes", words(32, plus(power(64), -1), "dave"), api.ErrAbiShort},
		{"bytes", words(32, plus(power(63), -1), "dave"), api.ErrAbiShort},
		{"bytes", words(32, plus(power(32), 4), "dave"), api.ErrAbiShort},
		{"bytes", words(32, 4, "dave", 0), api.ErrAbiRest},
		{"bytes", words(32, 0, 0), api.ErrAbiRest},
		{"bytes", words(64, 4), api.ErrAbiPlace},
		{"bytes", words(32), api.ErrAbiShort},
		{"bytes", words(32, 31, strings.Repeat("z", 32)), api.ErrAbiPad},
		{"uint8", words(256), api.ErrAbiWide},
		{"uint8", words(256, 1), api.ErrAbiWide},
		{"uint8", words(255, 1), api.ErrAbiRest},
		{"uint8", words(top), api.ErrAbiWide},
		{"int8", words(top), api.OK},
		{"int8", words(128), api.ErrAbiWide},
		{"int8", words(power(255)), api.ErrAbiWide},
		{"address", words(power(160)), api.ErrAbiWide},
		{"bool", words(2), api.ErrAbiWide},
		{"bool", words(plus(power(64), 1)), api.ErrAbiWide},
		{"bytes3", words("abcd"), api.ErrAbiPad},
		{"bytes3", words("abc")[:31] + "\x80", api.ErrAbiPad},
		{"uint8[]", words(32, 3, 1, 2), api.ErrAbiShort},
		{"uint8[]", words(32, 3, 256, 2), api.ErrAbiShort},
		{"uint8[]", words(32, 1, 1, 2), api.ErrAbiRest},
		{"uint8[]", words(32, top, 1, 2), api.ErrAbiShort},
		{"uint8[]", words(32, power(59), 1, 2), api.ErrAbiShort},
		{"uint8[]", words(32, plus(power(59), 2), 1, 2), api.ErrAbiShort},
		{"uint8[]", words(32, plus(power(64), 2), 1, 2), api.ErrAbiShort},
		{"uint8[65535][]", words(32, plus(power(43), 1), 1, 2), api.ErrAbiShort},
		{"uint8[2]", words(256), api.ErrAbiShort},
		{"uint8 uint8", words(256), api.ErrAbiShort},
		{"string[]", words(32, 2, 64, 64, 0), api.ErrAbiPlace},
		{"string[]", words(32, 2, 96, 64, 0, 0), api.ErrAbiPlace},
		{"string[]", words(32, 2, 64, 96, 0, 0), api.OK},
		{"string[]", words(32, 2, 64), api.ErrAbiShort},
		{"string string", words(64, 96, 0, 0), api.OK},
		{"string string", words(96, 64, 0, 0), api.ErrAbiPlace},
		{"string string", words(64, 64, 0), api.ErrAbiPlace},
		{"string uint8", words(64, 256, 33, "x"), api.ErrAbiShort},
		{"string uint8", words(64, 256, 1, "xx"), api.ErrAbiPad},
		{"string uint8", words(64, 256, 1, "x"), api.ErrAbiWide},
		{"uint8 string", words(256, 0, 1, "xx"), api.ErrAbiWide},
		{"string bytes3", words(64, "abcd", 1, "xx"), api.ErrAbiPad},
		{"(uint8,bytes)", words(32, 300, 96, 0), api.ErrAbiWide},
		{"(uint8,bytes)", words(32, 3, 96, 0), api.ErrAbiPlace},
		{"(uint8,bytes)", words(64, 300, 96, 0), api.ErrAbiPlace},
		{"(uint8,bytes)", words(32, 300), api.ErrAbiShort},
		{"(string)", words(32, 64, 32, 0), api.ErrAbiPlace},
		{"", words(0), api.ErrAbiRest},
		{"", "", api.OK},
	} {
		types := strings.Fields(c.types)
		if l, e := abi.Decode(types, []byte(c.data)); e != c.e || e != api.OK && len(l) != 0 {
			t.Errorf("P22.4: %s, %x: %d, want %d", c.types, c.data, e, c.e)
		}
		if e := checkDecode(t, types, []byte(c.data)); e != c.e {
			t.Errorf("model: %s, %x: %d, want %d", c.types, c.data, e, c.e)
		}
	}
}

// P22.4: ErrAbiType goes ahead of ErrLong, and that of all else.
func TestDecodeLong(t *testing.T) {
	data := make([]byte, api.MaxInput+1)
	for _, c := range []struct {
		types []string
		e     api.Errno
	}{
		{[]string{"uint8", "uint7"}, api.ErrAbiType},
		{nil, api.ErrLong},
		{[]string{"bytes"}, api.ErrLong},
		{[]string{"bool"}, api.ErrLong},
	} {
		if l, e := abi.Decode(c.types, data); e != c.e || len(l) != 0 {
			t.Errorf("P22.4: %v: %d, want %d", c.types, e, c.e)
		}
	}
	if _, e := abi.Decode([]string{"bool"}, data[1:]); e != api.ErrAbiRest {
		t.Errorf("P22.4: MaxInput bytes: %d", e)
	}
}

// P22.4: every row by chance, cut at every place, and with bytes behind.
func TestEveryCut(t *testing.T) {
	r := chance.Row(2207)
	for range 300 {
		types, values := anyRow(&r)
		data, _ := abi.Encode(types, values)
		for n := range data {
			if e := checkDecode(t, types, data[:n]); e != api.ErrAbiShort {
				t.Fatalf("P22.4: %v, %d of %d bytes: %d", types, n, len(data), e)
			}
		}
		for n := 1; n < 70; n += 1 + r.Below(5) {
			if e := checkDecode(t, types, slices.Concat(data, r.Text(n))); e != api.ErrAbiRest {
				t.Fatalf("P22.4: %v, %d bytes more: %d", types, n, e)
			}
		}
	}
}

// P22.4, P22.5: every row by chance, each of its words another one, or one more, or one less; two of them, too.
func TestEveryWord(t *testing.T) {
	r := chance.Row(2208)
	seen := map[api.Errno]int{}
	top := plus(power(256), -1)
	others := []string{words(0), words(1), words(2), words(32), words(64), words(96), words(128), words(top), words(power(255)), words(power(64)), words(power(63)), words(power(59)), words("a"), words(256)}
	for range 400 {
		types, values := anyRow(&r)
		data, _ := abi.Encode(types, values)
		for at := 0; at < len(data); at += 32 {
			old := new(big.Int).SetBytes(data[at : at+32])
			list := others
			for _, d := range []int64{-64, -32, -1, 1, 32, 64} {
				list = append(list, words(plus(old, d).Mod(plus(old, d), power(256))))
			}
			for _, word := range list {
				spoilt := slices.Concat(data[:at], []byte(word), data[at+32:])
				seen[checkDecode(t, types, spoilt)]++
				if r.Below(4) == 0 {
					copy(spoilt[32*r.Below(len(data)/32):], others[r.Below(len(others))])
					seen[checkDecode(t, types, spoilt)]++
				}
			}
			seen[checkDecode(t, types, slices.Concat(data[:at], data[at+32:]))]++
			seen[checkDecode(t, types, slices.Concat(data[:at], []byte(words(0)), data[at:]))]++
		}
		if t.Failed() {
			return
		}
	}
	for _, e := range []api.Errno{api.OK, api.ErrAbiShort, api.ErrAbiWide, api.ErrAbiPad, api.ErrAbiPlace, api.ErrAbiRest} {
		if seen[e] < 100 {
			t.Errorf("seen: %v", seen)
		}
	}
}

// P22.4, P22.5: every bit of some rows turned.
func TestEveryBit(t *testing.T) {
	r := chance.Row(2209)
	for range 40 {
		types, values := anyRow(&r)
		data, _ := abi.Encode(types, values)
		for bit := range 8 * min(len(data), 800) {
			data[bit/8] ^= 1 << (bit % 8)
			checkDecode(t, types, data)
			data[bit/8] ^= 1 << (bit % 8)
		}
		if t.Failed() {
			return
		}
	}
}

// P22.4, P22.5: the bytes of one row read as another one, and rows of small words by chance.
func TestOtherTypes(t *testing.T) {
	r := chance.Row(2210)
	good := 0
	for range 30000 {
		types := anyTypes(&r, 1+r.Below(3), 2)
		var data []byte
		if r.Below(2) == 0 {
			others, values := anyRow(&r)
			data, _ = abi.Encode(others, values)
		} else {
			for range r.Below(12) {
				data = append(data, words([]int{0, 1, 2, 32, 64, 96, 128, 160}[r.Below(8)])...)
			}
		}
		if checkDecode(t, types, data) == api.OK {
			good++
		}
		if t.Failed() {
			return
		}
	}
	if good < 100 {
		t.Errorf("only %d of them are rows of their types", good)
	}
}

// P22.4: a number of values that could not be there takes no room: the heads are asked for first.
func TestDecodeBomb(t *testing.T) {
	for _, count := range []int{1, 8, 1 << 20, 1 << 24, 1 << 62} {
		types := []string{"bool[65535][]", "string"}
		data := []byte(words(64, 96, count) + strings.Repeat("\x00", 1<<20))
		if _, e := abi.Decode(types, data); e != api.ErrAbiShort {
			t.Errorf("P22.4: %d lists: %d", count, e)
		}
	}
	deep := "bool" + strings.Repeat("[]", 32)
	if _, e := abi.Decode([]string{deep}, []byte(strings.Repeat(words(32, 1), 31))); e != api.ErrAbiShort {
		t.Errorf("P22.4: %d", e)
	}
	nested := []byte(strings.Repeat(words(32, 1), 32) + words(1))
	l, e := abi.Decode([]string{deep}, nested)
	if e != api.OK {
		t.Fatalf("P22.4: %d", e)
	}
	v := l[0]
	for range 32 {
		if len(v.Items) != 1 {
			t.Fatal("P22.4: not as deep as it is")
		}
		v = v.Items[0]
	}
	if v.Num != (api.U256{1}) {
		t.Errorf("P22.4: %v", v)
	}
}

// P22.4, P0.4: no types and nil, no bytes and nil are the same.
func TestDecodeEmpty(t *testing.T) {
	for _, types := range [][]string{nil, {}} {
		for _, data := range [][]byte{nil, {}} {
			if l, e := abi.Decode(types, data); e != api.OK || len(l) != 0 {
				t.Errorf("P0.4: %v, %d", l, e)
			}
		}
		for _, values := range [][]api.Value{nil, {}} {
			b, e := abi.Encode(types, values)
			p, f := abi.Packed(types, values)
			if e != api.OK || len(b) != 0 || f != api.OK || len(p) != 0 {
				t.Errorf("P0.4: %x, %d, %x, %d", b, e, p, f)
			}
		}
	}
}
