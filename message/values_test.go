package message_test

import (
	"encoding/hex"
	"math/big"
	"strconv"
	"strings"
	"testing"

	"waybill/api"
	"waybill/chance"
	"waybill/ecdsa"
	"waybill/keccak"
	"waybill/message"
)

// checkStruct holds StructHash against the model (P23.6, P0.2) and tells the error.
func checkStruct(t *testing.T, structs []api.Struct, name string, values []api.Value) api.Errno {
	t.Helper()
	want, wantE := modelStruct(structs, name, values)
	if got, e := message.StructHash(structs, name, values); got != want || e != wantE {
		t.Errorf("P23.6: StructHash(%.300v, %s, %s) = %x, %d, want %x, %d", structs, name, brief(values), got, e, want, wantE)
	}
	return wantE
}

// takes holds one value of a type: whether StructHash takes it.
func takes(t *testing.T, typ string, v api.Value, want api.Errno) {
	t.Helper()
	if e := checkStruct(t, with(typ), "T", all(v)); e != want {
		t.Errorf("P23.6: %s of %s: %d, want %d", brief(all(v)), typ, e, want)
	}
}

// mailValues tells the chapter's third example.
func mailValues() ([]api.Struct, []api.Value, api.Domain) {
	structs := structsOf("Mail(Person from,Person to,string contents)", "Person(string name,address wallet)")
	values := all(
		row(text("Cow"), api.Value{Num: hexNumber("cd2a3d9f938e13cd947ec05abc7fe734df8dd826")}),
		row(text("Bob"), api.Value{Num: hexNumber(strings.Repeat("bb", 20))}),
		text("Hello, Bob!"),
	)
	domain := api.Domain{Has: 15, Name: "Ether Mail", Version: "1", Chain: one, Contract: api.Address(digits(strings.Repeat("cc", 20)))}
	return structs, values, domain
}

// P23.6, P23.8: the chapter's third example, and the signature that EIP-712's own test shows for it.
func TestMail(t *testing.T) {
	structs, values, domain := mailValues()
	if h, e := message.StructHash(structs, "Mail", values); h != hash("c52c0ee5d84264471806290a3f2c4cecfc5490626bf912d01f240d7a274b371e") || e != api.OK {
		t.Errorf("P23.6: %x, %d", h, e)
	}
	digest, e := message.TypedDigest(domain, structs, "Mail", values)
	if digest != hash("be609aee343fb3c4b28e1df9e632fca64fcfaede20f02e86244efddf30957bd2") || e != api.OK {
		t.Errorf("P23.8: %x, %d", digest, e)
	}
	cow := keccak.Sum([]byte("cow"))
	sig, _ := ecdsa.Sign(numberOf(new(big.Int).SetBytes(cow[:])), digest)
	if want := (api.Sig{
		R:   hexNumber("4355c47d63924e8a72e509b65029052eb6c299d53a04e167c5775fd466751c9d"),
		S:   hexNumber("07299936d304c153f6443dfa05f40ff007d72911b6f72307f996231605b91562"),
		Odd: true,
	}); sig != want {
		t.Errorf("P23.8: signed: %v", sig)
	}
}

// P23.6: the chapter's fifth example.
func TestListExamples(t *testing.T) {
	for _, c := range []struct {
		v    api.Value
		want string
	}{
		{row(num(1), num(2)), "fa45a95a36a0d42a224f0e9f661ae78221f285333dea3ff7fd8673201d925cb9"},
		{row(), "74767fdcd4f0dd211fdaa745df7fee0d179bad8383ca98f5f190141bb24b1e22"},
	} {
		if h, e := message.StructHash(with("uint8[]"), "T", all(c.v)); h != hash(c.want) || e != api.OK {
			t.Errorf("P23.6: %v: %x, %d", c.v, h, e)
		}
	}
	takes(t, "uint8[]", row(num(256)), api.ErrMsgValue)
	takes(t, "uint8[]", row(num(1), num(256)), api.ErrMsgValue)
}

// P23.6: the chapter's seventh example. A value that holds itself is none either.
func TestSelf(t *testing.T) {
	p, leaf := structsOf("P(string name,P[] children)"), all(text("a"), row())
	for _, values := range [][]api.Value{leaf, all(text("b"), row(row(leaf...), row(leaf...))), all(text(""), row(row(text("c"), row(row(leaf...)))))} {
		if e := checkStruct(t, p, "P", values); e != api.OK {
			t.Errorf("P23.6: %v: %d", values, e)
		}
	}
	ring := all(api.Value{})
	ring[0].Items = ring
	for _, structs := range [][]api.Struct{structsOf("Q(Q q)"), structsOf("Q(Q[1] q)"), structsOf("Q(R[2][1] r)", "R(Q q)")} {
		for _, values := range [][]api.Value{nil, all(num(0)), all(num(1)), all(row(num(0))), all(row(row(num(0)), row(num(0)))), all(text("q"))} {
			if e := checkStruct(t, structs, "Q", values); e != api.ErrMsgValue {
				t.Errorf("P23.6: %v: %v: %d", structs, values, e)
			}
		}
	}
	for _, structs := range [][]api.Struct{structsOf("Q(Q q)"), structsOf("Q(Q[1] q)"), structsOf("Q(Q[] q)")} {
		if h, e := message.StructHash(structs, "Q", ring); h != zero || e != api.ErrMsgValue {
			t.Errorf("P23.6: a value that holds itself: %x, %d", h, e)
		}
	}
}

// P23.6: 2^16 values nested in one another, as many as the document's limits let in.
func TestDeepValue(t *testing.T) {
	structs := structsOf("P(P[] p)")
	kind := keccak.Sum([]byte("P(P[] p)"))
	children := keccak.Sum() // of an empty list
	values := all(row())
	for range 1<<15 - 1 {
		inner := keccak.Sum(kind[:], children[:])
		children = keccak.Sum(inner[:])
		values = all(row(row(values...)))
	}
	want := keccak.Sum(kind[:], children[:])
	if h, e := message.StructHash(structs, "P", values); h != want || e != api.OK {
		t.Errorf("P23.6: %x, %d, want %x", h, e, want)
	}
}

// P23.6: each base's word alone: what is hashed behind the type's digest.
func TestWordsOfBases(t *testing.T) {
	zeros := func(n int) string { return strings.Repeat("00", n) }
	hello := keccak.Sum([]byte("hello"))
	nothing := keccak.Sum()
	for _, c := range []struct {
		typ  string
		v    api.Value
		word string
	}{
		{"uint8", num(255), zeros(31) + "ff"},
		{"uint256", bigNum(big.NewInt(-1)), strings.Repeat("ff", 32)},
		{"uint256", num(0x0102030405060708), zeros(24) + "0102030405060708"},
		{"int8", bigNum(big.NewInt(-128)), strings.Repeat("ff", 31) + "80"},
		{"int16", num(0x7fff), zeros(30) + "7fff"},
		{"address", bigNum(plus(power(160), -1)), zeros(12) + strings.Repeat("ff", 20)},
		{"bool", num(1), zeros(31) + "01"},
		{"bool", num(0), zeros(32)},
		{"bytes1", text("a"), "61" + zeros(31)},
		{"bytes4", text("a\x00b\x00"), "61006200" + zeros(28)},
		{"bytes32", text(strings.Repeat("z", 32)), strings.Repeat("7a", 32)},
		{"bytes", text("hello"), hex.EncodeToString(hello[:])},
		{"string", text("hello"), hex.EncodeToString(hello[:])},
		{"string", text(""), hex.EncodeToString(nothing[:])},
		{"bytes[]", row(), hex.EncodeToString(nothing[:])},
		{"T[]", row(), hex.EncodeToString(nothing[:])},
	} {
		kind := keccak.Sum([]byte("T(" + c.typ + " a)"))
		want := keccak.Sum(kind[:], digits(c.word))
		if h, e := message.StructHash(with(c.typ), "T", all(c.v)); h != want || e != api.OK {
			t.Errorf("P23.6: %s %v: %x, %d, want %x", c.typ, c.v, h, e, want)
		}
	}
	empty := keccak.Sum([]byte("E()"))
	if h, e := message.StructHash(structsOf("E()"), "E", nil); h != keccak.Sum(empty[:]) || e != api.OK {
		t.Errorf("P23.6: a struct without members: %x, %d", h, e)
	}
}

// P23.6: the numbers at the edges of every base of numbers, the lengths of every one of texts.
func TestEdgesOfBases(t *testing.T) {
	types := []string{"address", "bool"}
	for bits := 8; bits <= 256; bits += 8 {
		types = append(types, "uint"+strconv.Itoa(bits), "int"+strconv.Itoa(bits))
	}
	for _, typ := range types {
		least, most := modelLimits(typ)
		takes(t, typ, bigNum(least), api.OK)
		takes(t, typ, bigNum(most), api.OK)
		if typ != "uint256" && typ != "int256" {
			takes(t, typ, bigNum(plus(least, -1)), api.ErrMsgValue)
			takes(t, typ, bigNum(plus(most, 1)), api.ErrMsgValue)
		}
		takes(t, typ, api.Value{Data: []byte{0}}, api.ErrMsgValue)
		takes(t, typ, row(num(0)), api.ErrMsgValue)
	}
	for n := 1; n <= 32; n++ {
		typ := "bytes" + strconv.Itoa(n)
		takes(t, typ, text(strings.Repeat("\x00", n)), api.OK)
		takes(t, typ, text(strings.Repeat("x", n-1)), api.ErrMsgValue)
		takes(t, typ, text(strings.Repeat("x", n+1)), api.ErrMsgValue)
		takes(t, typ, api.Value{Num: one, Data: make([]byte, n)}, api.ErrMsgValue)
		takes(t, typ, api.Value{Data: make([]byte, n), Items: all(num(0))}, api.ErrMsgValue)
	}
	for _, typ := range []string{"bytes", "string"} {
		takes(t, typ, text("\xff\x00"), api.OK)
		takes(t, typ, num(1), api.ErrMsgValue)
		takes(t, typ, row(num(0)), api.ErrMsgValue)
		takes(t, typ, api.Value{Num: api.U256{3: 1}, Data: []byte("x")}, api.ErrMsgValue)
	}
}

// P0.7: no text is too long, and no list.
func TestLongValues(t *testing.T) {
	takes(t, "bytes", api.Value{Data: make([]byte, api.MaxInput+1)}, api.OK)
	takes(t, "string[]", row(api.Value{Data: make([]byte, api.MaxInput)}, text("x")), api.OK)
	takes(t, "bool[]", api.Value{Items: make([]api.Value, api.MaxInput/32+1)}, api.OK)
	takes(t, "bool[65535]", api.Value{Items: make([]api.Value, 65535)}, api.OK)
	takes(t, "bool[65535]", api.Value{Items: make([]api.Value, 65534)}, api.ErrMsgValue)
}

// P23.6: the numbers of values that lists and structs have; the last pair is the outermost.
func TestCounts(t *testing.T) {
	for n := range 5 {
		v := api.Value{Items: make([]api.Value, n)}
		want := api.ErrMsgValue
		if n == 2 {
			want = api.OK
		}
		takes(t, "bool[]", v, api.OK)
		takes(t, "bool[2]", v, want)
		if e := checkStruct(t, structsOf("S(bool a,bool b)"), "S", v.Items); e != want {
			t.Errorf("P23.6: %d values of two members: %d", n, e)
		}
		if e := checkStruct(t, structsOf("S(U u)", "U(bool a,bool b)"), "S", all(v)); e != want {
			t.Errorf("P23.6: %d values of two members, deeper: %d", n, e)
		}
	}
	pair, three := row(num(1), num(0)), row(num(1), num(0), num(1))
	takes(t, "bool[2][3]", row(pair, pair, pair), api.OK)
	takes(t, "bool[2][3]", row(three, three), api.ErrMsgValue)
	takes(t, "bool[][2]", row(row(), three), api.OK)
	takes(t, "bool[][2]", row(row(), three, row()), api.ErrMsgValue)
	takes(t, "bool[2][]", row(), api.OK)
	takes(t, "bool[2][]", row(pair, pair, pair), api.OK)
	takes(t, "bool[2][]", row(pair, three), api.ErrMsgValue)
	deep := num(1)
	for range 32 {
		deep = row(deep)
	}
	takes(t, "uint8"+strings.Repeat("[1]", 32), deep, api.OK)
	takes(t, "uint8"+strings.Repeat("[]", 32), deep, api.OK)
	takes(t, "uint8"+strings.Repeat("[]", 31), deep, api.ErrMsgValue)
	takes(t, "uint8"+strings.Repeat("[]", 32), row(deep), api.ErrMsgValue)
}

// P23.6: a list or a struct has neither a number nor bytes, wherever it stands.
func TestFilledLists(t *testing.T) {
	structs := structsOf("S(bool[] a,U u,bool[1] c)", "U(bool a)")
	right := func() []api.Value { return all(row(num(1)), row(num(1)), row(num(1))) }
	if e := checkStruct(t, structs, "S", right()); e != api.OK {
		t.Fatalf("P23.6: %d", e)
	}
	for i := range right() {
		for limb := range 4 {
			values := right()
			values[i].Num[limb] = 1
			if e := checkStruct(t, structs, "S", values); e != api.ErrMsgValue {
				t.Errorf("P23.6: a number at %d: %d", i, e)
			}
		}
		values := right()
		values[i].Data = []byte{0}
		if e := checkStruct(t, structs, "S", values); e != api.ErrMsgValue {
			t.Errorf("P23.6: bytes at %d: %d", i, e)
		}
	}
}

// P23.6: a struct's word within another one is its own StructHash.
func TestStructWithin(t *testing.T) {
	structs := structsOf("S(U u,U[] l)", "U(bool a,V v)", "V(bytes b)")
	u := all(num(1), row(text("x")))
	own, _ := message.StructHash(structs, "U", u)
	kind, _ := message.TypeHash(structs, "S")
	list := keccak.Sum(own[:], own[:])
	want := keccak.Sum(kind[:], own[:], list[:])
	if h, e := message.StructHash(structs, "S", all(row(u...), row(row(u...), row(u...)))); h != want || e != api.OK {
		t.Errorf("P23.6: %x, %d, want %x", h, e, want)
	}
}

// P23.6, P23.9: lists and values by chance, in any order, with structs beside, and spoilt ones.
func TestValuesByChance(t *testing.T) {
	r := chance.Row(2320)
	seen := map[api.Errno]int{}
	for range 2000 {
		structs := anyStructs(&r)
		name := structs[r.Below(len(structs))].Name
		values := anyValues(&r, structs, name, 0)
		if e := checkStruct(t, structs, name, values); e != api.OK {
			t.Fatalf("P23.6: %v %s %v: %d", structs, name, values, e)
		}
		want, _ := message.StructHash(structs, name, values)
		more := append(cloneStructs(structs), structOf("More("+name+"[] back,bool b)"))
		if got, e := message.StructHash(shuffled(&r, more), name, values); got != want || e != api.OK {
			t.Fatalf("P23.9: in another order: %x, %d, want %x", got, e, want)
		}
		whole := row(values...)
		for range 3 {
			spoil(&r, &whole)
			seen[checkStruct(t, structs, name, whole.Items)]++
		}
		if t.Failed() {
			return
		}
	}
	if seen[api.OK] < 100 || seen[api.ErrMsgValue] < 1000 {
		t.Errorf("seen: %v", seen)
	}
}
