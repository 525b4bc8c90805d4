package message_test

import (
	"slices"
	"strconv"
	"strings"
	"testing"

	"waybill/api"
	"waybill/chance"
	"waybill/keccak"
	"waybill/message"
)

// checkType holds TypeText and TypeHash against the model (P23.4, P23.5, P0.2), and the errors of the calls that ask for a type first.
func checkType(t *testing.T, structs []api.Struct, name string) api.Errno {
	t.Helper()
	want, wantE := modelText(structs, name)
	if got, e := message.TypeText(structs, name); got != want || e != wantE {
		t.Errorf("P23.4: TypeText(%.300v, %q) = %q, %d, want %q, %d", structs, name, got, e, want, wantE)
	}
	digest := zero
	if wantE == api.OK {
		digest = keccak.Sum([]byte(want))
	}
	if got, e := message.TypeHash(structs, name); got != digest || e != wantE {
		t.Errorf("P23.5: TypeHash(%.300v, %q) = %x, %d, want %x, %d", structs, name, got, e, digest, wantE)
	}
	if wantE == api.OK {
		return api.OK
	}
	wrong := all(row(num(1)), text("x")) // values that are no struct's: the type's error comes first
	if got, e := message.StructHash(structs, name, wrong); got != zero || e != wantE {
		t.Errorf("P23.6: StructHash(%.300v, %q) = %x, %d", structs, name, got, e)
	}
	if got, e := message.TypedDigest(api.Domain{}, structs, name, wrong); got != zero || e != wantE {
		t.Errorf("P23.8: TypedDigest(%.300v, %q) = %x, %d", structs, name, got, e)
	}
	return wantE
}

// isRight holds a list that is right, or is not, against the program and the model.
func isRight(t *testing.T, structs []api.Struct, name string, right bool) {
	t.Helper()
	if e := checkType(t, structs, name); (e == api.OK) != right || !right && e != api.ErrMsgType {
		t.Errorf("P23.4: TypeText(%.300v, %q): %d", structs, name, e)
	}
}

// P23.4, P23.5: the chapter's second and fifth examples.
func TestTypeExamples(t *testing.T) {
	mail := structsOf("Person(string name,address wallet)", "Mail(Person from,Person to,string contents)")
	if s, e := message.TypeText(mail, "Mail"); s != "Mail(Person from,Person to,string contents)Person(string name,address wallet)" || e != api.OK {
		t.Errorf("P23.4: %q, %d", s, e)
	}
	if h, e := message.TypeHash(mail, "Mail"); h != hash("a0cedeb2dc280ba39b857546d74f5549c3a1d7bdc2dd96bf881f76108e23dac2") || e != api.OK {
		t.Errorf("P23.5: %x, %d", h, e)
	}
	if h, e := message.TypeHash(with("uint8[]"), "T"); h != hash("40aa967021c1fc4583bb86efde3bc2380c87a02e890ddb0364c129ec507c7b73") || e != api.OK {
		t.Errorf("P23.5: %x, %d", h, e)
	}
	if s, e := message.TypeText(structsOf("P(string name,P[] children)"), "P"); s != "P(string name,P[] children)" || e != api.OK {
		t.Errorf("P23.4: %q, %d", s, e)
	}
}

// P23.5: digests that contracts on the chain have written down.
func TestKnownTypes(t *testing.T) {
	offer := "OfferItem(uint8 itemType,address token,uint256 identifierOrCriteria,uint256 startAmount,uint256 endAmount)"
	consideration := "ConsiderationItem(uint8 itemType,address token,uint256 identifierOrCriteria,uint256 startAmount,uint256 endAmount,address recipient)"
	order := "OrderComponents(address offerer,address zone,OfferItem[] offer,ConsiderationItem[] consideration,uint8 orderType,uint256 startTime,uint256 endTime,bytes32 zoneHash,uint256 salt,bytes32 conduitKey,uint256 counter)"
	for _, c := range []struct {
		want    string
		structs []string
	}{
		{"8b73c3c69bb8fe3d512ecc4cf759cc79239f7b179b0ffacaa9a75d522b39400f", []string{"EIP712Domain(string name,string version,uint256 chainId,address verifyingContract)"}},
		{"47e79534a245952e8b16893a336b85a3d9ea9fa8c573f3d803afb92a79469218", []string{"EIP712Domain(uint256 chainId,address verifyingContract)"}},
		{"6e71edae12b1b97f4d1f60370fef10105fa2faae0126114a169c64845d6126c9", []string{"Permit(address owner,address spender,uint256 value,uint256 nonce,uint256 deadline)"}},
		{"ea2aa0a1be11a07ed86d755c93467f4f82362b452371d1ba94d1715123511acb", []string{"Permit(address holder,address spender,uint256 nonce,uint256 expiry,bool allowed)"}},
		{"60b3cbf8b4a223d68d641b3b6ddf9a298e7f33710cf3d3a9d1146b5a6150fbca", []string{"SafeMessage(bytes message)"}},
		{"939c21a48a8dbe3a9a2404a1d46691e4d39f6583d6ec6b35714604c986d80106", []string{"PermitTransferFrom(TokenPermissions permitted,address spender,uint256 nonce,uint256 deadline)", "TokenPermissions(address token,uint256 amount)"}},
		{"a66999307ad1bb4fde44d13a5d710bd7718e0c87c1eef68a571629fbf5b93d02", []string{offer, consideration}},
		{"42d81c6929ffdc4eb27a0808e40e82516ad42296c166065de7f812492304ff6e", []string{consideration, offer}},
		{"fa445660b7e21515a59617fcd68910b487aa5808b8abda3d78bc85df364b2c2f", []string{order, offer, consideration}},
	} {
		structs := structsOf(c.structs...)
		if h, e := message.TypeHash(structs, structs[0].Name); h != hash(c.want) || e != api.OK {
			t.Errorf("P23.5: TypeHash of %s = %x, %d, want %s", structs[0].Name, h, e, c.want)
		}
	}
}

// P23.4: the chapter's sixth example.
func TestWrongTypes(t *testing.T) {
	for _, s := range []string{"uint", "uint8[0]", "uint8[ ]", "(uint8)", "Nobody"} {
		isRight(t, with(s), "T", false)
	}
	twice := []api.Member{{Name: "a", Type: "bool"}, {Name: "a", Type: "string"}}
	for _, structs := range [][]api.Struct{
		{{Name: "bool"}, {Name: "T"}},
		{{Name: "T"}, {Name: "1a"}},
		{{Name: "T"}, {Name: "T"}},
		{{Name: "U"}, {Name: "T"}, {Name: "U", Members: []api.Member{{Name: "a", Type: "bool"}}}},
		{{Name: "T", Members: twice}},
		{{Name: "T"}, {Name: "U", Members: twice}},
		{{Name: "U", Members: twice}, {Name: "T"}},
		{{Name: "U"}},
		{{Name: "t"}, {Name: "TT"}, {Name: "T_"}},
		{},
		nil,
	} {
		isRight(t, structs, "T", false)
	}
	for _, name := range []string{"", "bool", "T[]", "T ", "t", "T()"} {
		isRight(t, structsOf("T(bool a)"), name, false)
	}
	// Two structs may have members of one name, and a member may be named as a struct or a base.
	isRight(t, structsOf("T(bool a,U b)", "U(bool a,T[] b,bool T,bool U,bool bool)"), "T", true)
}

// P23.4: every number behind uint, int and bytes, and what looks like one.
func TestEveryBase(t *testing.T) {
	right := 0
	for _, word := range []string{"uint", "int", "bytes", "address", "bool", "string", "Uint", "byte", "fixed", "function"} {
		tails := []string{"", "0", "00", "08", "032", "1 ", " 8", "8x", "-8", "+8", "256256", "18446744073709551624", "x8", "8.", "０"}
		for n := range 300 {
			tails = append(tails, strconv.Itoa(n))
		}
		for _, tail := range tails {
			if checkType(t, with(word+tail), "T") == api.OK {
				right++
			}
			checkType(t, with(word+tail+"[]"), "T")
			// The same text as a struct's Name: it is free just if it is a word and no base.
			checkType(t, []api.Struct{{Name: "T", Members: []api.Member{{Name: "a", Type: word + tail}}}, {Name: word + tail}}, "T")
		}
	}
	if right != 32+32+32+4 {
		t.Errorf("P23.4: %d bases", right)
	}
	isRight(t, structsOf("T(uint7 a,bytes33[] b,uint08 c)", "uint7()", "bytes33()", "uint08()"), "T", true)
	isRight(t, structsOf("T()", "uint()"), "T", false)
	isRight(t, structsOf("T()", "int()"), "T", false)
}

// P23.4: pairs of brackets, behind a base and behind a struct.
func TestPairs(t *testing.T) {
	for _, base := range []string{"uint8", "string", "T"} {
		for _, pairs := range []string{"", "[]", "[1]", "[9]", "[10]", "[65535]", "[][]", "[2][]", "[][2]", "[65535][65535]", strings.Repeat("[]", 32), strings.Repeat("[65535]", 32), strings.Repeat("[1][]", 16)} {
			isRight(t, with(base+pairs), "T", true)
		}
		for _, pairs := range []string{"[0]", "[00]", "[01]", "[65536]", "[99999]", "[100000]", "[18446744073709551617]", "[" + strings.Repeat("9", 100) + "]", "[-1]", "[+1]", "[ ]", "[1 ]", "[ 1]", "[1", "1]", "[", "]", "][", "[[]]", "[]]", "[][", "[1]x", "[]x]", "[1]12]", "[](]", "[]x[]", "[] []", " []", "[] ", "[x]", "[T]", "[1,2]", "[0x1]", "[]()", strings.Repeat("[]", 33), strings.Repeat("[1]", 33), strings.Repeat("[]", 1000)} {
			isRight(t, with(base+pairs), "T", false)
		}
	}
	for _, s := range []string{"", "[]", "[1]", "()", "(bool)[]", "tuple", "T,T", "bool,bool", "bool a", "T(bool a)", strings.Repeat("a", 5000), strings.Repeat("[", 5000)} {
		isRight(t, with(s), "T", false)
	}
}

// P23.4: words, at every byte in the first place and behind it, and of every length up to the longest.
func TestWords(t *testing.T) {
	both := func(word string, right bool) {
		t.Helper()
		isRight(t, []api.Struct{{Name: word}}, word, right)
		isRight(t, []api.Struct{{Name: "T", Members: []api.Member{{Name: word, Type: "bool"}}}}, "T", right)
	}
	for c := range 256 {
		letter := strings.ContainsRune("abcdefghijklmnopqrstuvwxyzABCDEFGHIJKLMNOPQRSTUVWXYZ_$", rune(c))
		digit := c >= '0' && c <= '9'
		both(string([]byte{byte(c)}), letter)
		both(string([]byte{'x', byte(c)}), letter || digit)
		both(string([]byte{'x', byte(c), 'y'}), letter || digit)
	}
	for _, n := range []int{1, 2, 100, 255, 256, 257, 258, 512, 5000} {
		both(strings.Repeat("a", n), n <= 256)
		both("$"+strings.Repeat("9", n-1), n <= 256)
	}
	for _, s := range []string{"", "é", "xé", "a b", "a-b", "\x00", "x\x00", "x\n", "x[]", "x()", "ａ"} {
		both(s, false)
	}
	long := strings.Repeat("b", 256)
	isRight(t, structsOf("T("+long+"[2] "+long+")", long+"()"), "T", true)
}

// P23.4: what a struct leans on, by others too, in rings and twice; the Names rise byte by byte.
func TestLeans(t *testing.T) {
	structs := structsOf(
		"B(C[] c,A a)", "C(B[1][] b)", "A()", "$()", "Self(Self[] s)",
		"Top(b x,_c y,B z,b[] again,Z w)", "b(B2 q)", "_c()", "Z()", "B2(b[] back)", "Other(Top t)",
	)
	for name, want := range map[string]string{
		"A":     "A()",
		"C":     "C(B[1][] b)A()B(C[] c,A a)",
		"B":     "B(C[] c,A a)A()C(B[1][] b)",
		"Self":  "Self(Self[] s)",
		"B2":    "B2(b[] back)b(B2 q)",
		"Top":   "Top(b x,_c y,B z,b[] again,Z w)A()B(C[] c,A a)B2(b[] back)C(B[1][] b)Z()_c()b(B2 q)",
		"Other": "Other(Top t)A()B(C[] c,A a)B2(b[] back)C(B[1][] b)Top(b x,_c y,B z,b[] again,Z w)Z()_c()b(B2 q)",
	} {
		if s, e := message.TypeText(structs, name); s != want || e != api.OK {
			t.Errorf("P23.4: TypeText(%s) = %q, %d", name, s, e)
		}
		checkType(t, structs, name)
	}
}

// P23.4: a long chain of structs, each leaning on the next one.
func TestLongChain(t *testing.T) {
	const count = 3000
	var structs []api.Struct
	var rest []string
	for i := range count {
		name := "s" + strconv.Itoa(i)
		s := api.Struct{Name: name}
		if i+1 < count {
			s.Members = []api.Member{{Name: "next", Type: "s" + strconv.Itoa(i+1)}}
		}
		structs = append(structs, s)
		rest = append(rest, name)
	}
	slices.Sort(rest[1:])
	var want strings.Builder
	for _, name := range rest {
		i, _ := strconv.Atoi(name[1:])
		want.WriteString(modelOwn(structs[i]))
	}
	if s, e := message.TypeText(structs, "s0"); s != want.String() || e != api.OK {
		t.Errorf("P23.4: %d bytes, %d", len(s), e)
	}
}

// P23.4, P23.5, P23.9: lists by chance, in any order, with structs beside that the named one does not lean on, and spoilt ones.
func TestTypesByChance(t *testing.T) {
	r := chance.Row(2310)
	seen := map[api.Errno]int{}
	for range 2000 {
		structs := anyStructs(&r)
		name := structs[r.Below(len(structs))].Name
		if checkType(t, structs, name) != api.OK {
			t.Fatalf("not right: %v", structs)
		}
		want, _ := message.TypeText(structs, name)
		if got, e := message.TypeText(shuffled(&r, structs), name); got != want || e != api.OK {
			t.Fatalf("P23.9: in another order: %q, %d, want %q", got, e, want)
		}
		more := append(cloneStructs(structs), structOf("More("+name+"[] back,More2 m)"), structOf("More2()"))
		if got, e := message.TypeText(shuffled(&r, more), name); got != want || e != api.OK {
			t.Fatalf("P23.9: with more structs: %q, %d, want %q", got, e, want)
		}
		seen[checkType(t, spoilStructs(&r, structs), name)]++
		if t.Failed() {
			return
		}
	}
	if seen[api.OK] < 50 || seen[api.ErrMsgType] < 500 {
		t.Errorf("seen: %v", seen)
	}
}
