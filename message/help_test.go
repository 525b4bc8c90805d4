package message_test

import (
	"encoding/hex"
	"fmt"
	"maps"
	"math/big"
	"regexp"
	"slices"
	"strconv"
	"strings"
	"testing"

	"waybill/api"
	"waybill/chance"
	"waybill/keccak"
)

var (
	zero api.Hash
	one  = api.U256{1}
)

// Values: of a number, of a text, of a list or struct.

func num(v uint64) api.Value         { return api.Value{Num: api.U256{v}} }
func bigNum(v *big.Int) api.Value    { return api.Value{Num: numberOf(v)} }
func text(s string) api.Value        { return api.Value{Data: []byte(s)} }
func row(l ...api.Value) api.Value   { return api.Value{Items: l} }
func all(l ...api.Value) []api.Value { return l }

// brief tells values as far as a message can bear them.
func brief(values []api.Value) string {
	if size(values) > 1000 {
		return "many values"
	}
	return fmt.Sprint(values)
}

func size(values []api.Value) int {
	n := len(values)
	for _, v := range values {
		n += len(v.Data) + size(v.Items)
	}
	return n
}

func digits(s string) []byte {
	b, err := hex.DecodeString(s)
	if err != nil {
		panic(err)
	}
	return b
}

func hash(s string) api.Hash { return api.Hash(digits(s)) }

func power(n int) *big.Int { return new(big.Int).Lsh(big.NewInt(1), uint(n)) }

func plus(x *big.Int, n int64) *big.Int { return new(big.Int).Add(x, big.NewInt(n)) }

func hexNumber(s string) api.U256 { return numberOf(new(big.Int).SetBytes(digits(s))) }

// numberOf tells a number modulo 2^256.
func numberOf(v *big.Int) api.U256 {
	v = new(big.Int).Mod(v, power(256))
	var x api.U256
	for i := range x {
		x[i] = new(big.Int).Rsh(v, uint(64*i)).Uint64()
	}
	return x
}

func bigOf(x api.U256) *big.Int {
	v := new(big.Int)
	for _, limb := range slices.Backward(x[:]) {
		v.Add(v.Lsh(v, 64), new(big.Int).SetUint64(limb))
	}
	return v
}

// structOf reads a struct as its own text has it.
func structOf(own string) api.Struct {
	name, rest, _ := strings.Cut(own, "(")
	s := api.Struct{Name: name}
	for _, member := range strings.Split(strings.TrimSuffix(rest, ")"), ",") {
		if typ, name, ok := strings.Cut(member, " "); ok {
			s.Members = append(s.Members, api.Member{Name: name, Type: typ})
		}
	}
	return s
}

// structsOf reads a list of structs.
func structsOf(own ...string) []api.Struct {
	var list []api.Struct
	for _, s := range own {
		list = append(list, structOf(s))
	}
	return list
}

// with tells the struct T with one member a of a type.
func with(typ string) []api.Struct {
	return []api.Struct{{Name: "T", Members: []api.Member{{Name: "a", Type: typ}}}}
}

// The model of the chapter's types.
var (
	modelName  = regexp.MustCompile(`^[A-Za-z_$][A-Za-z0-9_$]{0,255}$`)
	modelPlain = regexp.MustCompile(`^(address|bool|bytes|string)$`)
	modelSized = regexp.MustCompile(`^(uint|int|bytes)([1-9][0-9]{0,2})$`)
	modelPair  = regexp.MustCompile(`\[([1-9][0-9]{0,4})?\]$`)
)

// modelBase tells whether a text is a base that is no struct.
func modelBase(s string) bool {
	found := modelSized.FindStringSubmatch(s)
	if found == nil {
		return modelPlain.MatchString(s)
	}
	n, _ := strconv.Atoi(found[2])
	return found[1] == "bytes" && n <= 32 || found[1] != "bytes" && n%8 == 0 && n <= 256
}

// modelPeel takes the outermost pair of brackets from a type: what is within, and its number (0: any).
func modelPeel(s string) (inner string, count int, ok bool) {
	pair := modelPair.FindString(s)
	if pair == "" {
		return s, 0, false
	}
	count, _ = strconv.Atoi(strings.Trim(pair, "[]"))
	return strings.TrimSuffix(s, pair), count, true
}

// modelCore peels a type to its base. The last answer tells whether the pairs may be.
func modelCore(s string) (base string, right bool) {
	pairs := 0
	for {
		inner, count, ok := modelPeel(s)
		if !ok {
			return s, pairs <= 32
		}
		if count > 65535 {
			return "", false
		}
		s = inner
		pairs++
	}
}

func modelFind(structs []api.Struct, name string) int {
	return slices.IndexFunc(structs, func(s api.Struct) bool { return s.Name == name })
}

func modelRight(structs []api.Struct) bool {
	for i, s := range structs {
		if !modelName.MatchString(s.Name) || modelBase(s.Name) || s.Name == "uint" || s.Name == "int" || modelFind(structs, s.Name) != i {
			return false
		}
		for j, m := range s.Members {
			base, right := modelCore(m.Type)
			if !right || !modelBase(base) && modelFind(structs, base) < 0 || !modelName.MatchString(m.Name) {
				return false
			}
			if slices.ContainsFunc(s.Members[:j], func(o api.Member) bool { return o.Name == m.Name }) {
				return false
			}
		}
	}
	return true
}

// modelLeans tells all that a struct leans on: what is met is asked again until nothing new comes.
func modelLeans(structs []api.Struct, name string) []string {
	met := map[string]bool{name: true}
	for grown := true; grown; {
		grown = false
		for _, s := range structs {
			for _, m := range s.Members {
				base, _ := modelCore(m.Type)
				if met[s.Name] && !met[base] && modelFind(structs, base) >= 0 {
					met[base], grown = true, true
				}
			}
		}
	}
	delete(met, name)
	return slices.Sorted(maps.Keys(met))
}

func modelOwn(s api.Struct) string {
	var members []string
	for _, m := range s.Members {
		members = append(members, m.Type+" "+m.Name)
	}
	return s.Name + "(" + strings.Join(members, ",") + ")"
}

// modelText is P23.4.
func modelText(structs []api.Struct, name string) (string, api.Errno) {
	at := modelFind(structs, name)
	if !modelRight(structs) || at < 0 {
		return "", api.ErrMsgType
	}
	s := modelOwn(structs[at])
	for _, other := range modelLeans(structs, name) {
		s += modelOwn(structs[modelFind(structs, other)])
	}
	return s, api.OK
}

// modelLimits tells the least and the greatest number of a base of numbers.
func modelLimits(base string) (least, most *big.Int) {
	bits, _ := strconv.Atoi(strings.TrimLeft(base, "uint"))
	switch {
	case base == "address":
		bits = 160
	case base == "bool":
		bits = 1
	case strings.HasPrefix(base, "int"):
		return new(big.Int).Neg(power(bits - 1)), plus(power(bits-1), -1)
	}
	return new(big.Int), plus(power(bits), -1)
}

// modelWord tells the word of a value of a type, and whether it is one.
func modelWord(structs []api.Struct, typ string, v api.Value) ([]byte, bool) {
	if inner, count, ok := modelPeel(typ); ok {
		if v.Num != (api.U256{}) || len(v.Data) > 0 || count > 0 && len(v.Items) != count {
			return nil, false
		}
		return modelJoin(structs, slices.Repeat([]string{inner}, len(v.Items)), v.Items, "")
	}
	if at := modelFind(structs, typ); at >= 0 {
		members := structs[at].Members
		if v.Num != (api.U256{}) || len(v.Data) > 0 || len(v.Items) != len(members) {
			return nil, false
		}
		var types []string
		for _, m := range members {
			types = append(types, m.Type)
		}
		own, _ := modelText(structs, typ)
		digest := keccak.Sum([]byte(own))
		return modelJoin(structs, types, v.Items, string(digest[:]))
	}
	return modelBaseWord(typ, v)
}

// modelJoin tells the digest of a text and the words of values.
func modelJoin(structs []api.Struct, types []string, values []api.Value, ahead string) ([]byte, bool) {
	whole := []byte(ahead)
	for i, v := range values {
		word, ok := modelWord(structs, types[i], v)
		if !ok {
			return nil, false
		}
		whole = append(whole, word...)
	}
	digest := keccak.Sum(whole)
	return digest[:], true
}

func modelBaseWord(base string, v api.Value) ([]byte, bool) {
	switch {
	case base == "bytes" || base == "string":
		digest := keccak.Sum(v.Data)
		return digest[:], v.Num == api.U256{} && len(v.Items) == 0
	case strings.HasPrefix(base, "bytes"):
		n, _ := strconv.Atoi(base[5:])
		word := append(slices.Clone(v.Data), make([]byte, 32)...)
		return word[:32], v.Num == api.U256{} && len(v.Items) == 0 && len(v.Data) == n
	}
	least, most := modelLimits(base)
	x := bigOf(v.Num)
	if least.Sign() < 0 && x.Bit(255) == 1 {
		x.Sub(x, power(256))
	}
	return bigOf(v.Num).FillBytes(make([]byte, 32)), len(v.Data) == 0 && len(v.Items) == 0 && x.Cmp(least) >= 0 && x.Cmp(most) <= 0
}

// modelStruct is P23.6.
func modelStruct(structs []api.Struct, name string, values []api.Value) (api.Hash, api.Errno) {
	if _, e := modelText(structs, name); e != api.OK {
		return zero, e
	}
	word, ok := modelWord(structs, name, row(values...))
	if !ok {
		return zero, api.ErrMsgValue
	}
	return api.Hash(word), api.OK
}

// modelDomain is P23.7.
func modelDomain(d api.Domain) (api.Hash, api.Errno) {
	if d.Has < 0 || d.Has > 31 {
		return zero, api.ErrArg
	}
	name, version := keccak.Sum([]byte(d.Name)), keccak.Sum([]byte(d.Version))
	var parts []string
	var words []byte
	for i, field := range []struct{ text, word string }{
		{"string name", string(name[:])},
		{"string version", string(version[:])},
		{"uint256 chainId", string(bigOf(d.Chain).FillBytes(make([]byte, 32)))},
		{"address verifyingContract", strings.Repeat("\x00", 12) + string(d.Contract[:])},
		{"bytes32 salt", string(d.Salt[:])},
	} {
		if d.Has&(1<<i) != 0 {
			parts = append(parts, field.text)
			words = append(words, field.word...)
		}
	}
	kind := keccak.Sum([]byte("EIP712Domain(" + strings.Join(parts, ",") + ")"))
	return keccak.Sum(kind[:], words), api.OK
}

// modelTyped is P23.8.
func modelTyped(d api.Domain, structs []api.Struct, name string, values []api.Value) (api.Hash, api.Errno) {
	domain, e := modelDomain(d)
	if e != api.OK {
		return zero, e
	}
	digest, e := modelStruct(structs, name, values)
	if e != api.OK {
		return zero, e
	}
	return keccak.Sum([]byte("\x19\x01"), domain[:], digest[:]), api.OK
}

// anyBase tells a base by chance that is no struct.
func anyBase(r *chance.Row) string {
	switch r.Below(6) {
	case 0:
		return "uint" + strconv.Itoa(8*(1+r.Below(32)))
	case 1:
		return "int" + strconv.Itoa(8*(1+r.Below(32)))
	case 2:
		return "bytes" + strconv.Itoa(1+r.Below(32))
	}
	return []string{"address", "bool", "bytes", "string"}[r.Below(4)]
}

// names are those of structs, in an order that is not the rising one.
var names = []string{"Mail", "a", "_b", "$", "Person", "A1", "uint7", "Z", "uint256_", "bytes33"}

// anyStructs tells a right list by chance. A struct leans on an earlier one only within lists of any number, so each one has values.
func anyStructs(r *chance.Row) []api.Struct {
	count := 1 + r.Below(6)
	first := r.Below(len(names))
	name := func(i int) string { return names[(first+i)%len(names)] }
	var structs []api.Struct
	for i := range count {
		s := api.Struct{Name: name(i)}
		for j := range r.Below(4) {
			s.Members = append(s.Members, api.Member{Name: "m" + strconv.Itoa(j), Type: anyMember(r, i, count, name)})
		}
		structs = append(structs, s)
	}
	return structs
}

func anyMember(r *chance.Row, at, count int, name func(int) string) string {
	typ, later := anyBase(r), true
	if r.Below(2) == 0 {
		other := r.Below(count)
		typ, later = name(other), other > at
	}
	if !later {
		typ += "[]"
	}
	for r.Below(3) == 0 {
		typ += []string{"[]", "[1]", "[2]"}[r.Below(3)]
	}
	return typ
}

// anyValue tells a value of a type by chance; deep down its lists are empty.
func anyValue(r *chance.Row, structs []api.Struct, typ string, deep int) api.Value {
	if inner, count, ok := modelPeel(typ); ok {
		if count == 0 && deep < 4 {
			count = r.Below(3)
		}
		var v api.Value
		for range count {
			v.Items = append(v.Items, anyValue(r, structs, inner, deep+1))
		}
		return v
	}
	if modelFind(structs, typ) >= 0 {
		return row(anyValues(r, structs, typ, deep+1)...)
	}
	switch {
	case typ == "bytes" || typ == "string":
		return api.Value{Data: r.Text(r.Below(70))}
	case strings.HasPrefix(typ, "bytes"):
		n, _ := strconv.Atoi(typ[5:])
		return api.Value{Data: r.Text(n)}
	}
	least, most := modelLimits(typ)
	x := bigOf(r.Number())
	x.Mod(x, plus(new(big.Int).Sub(most, least), 1))
	return bigNum([]*big.Int{least, most, x.Add(x, least)}[r.Below(3)])
}

// anyValues tells the values of a struct's members.
func anyValues(r *chance.Row, structs []api.Struct, name string, deep int) []api.Value {
	var values []api.Value
	for _, m := range structs[modelFind(structs, name)].Members {
		values = append(values, anyValue(r, structs, m.Type, deep))
	}
	return values
}

func anyDomain(r *chance.Row) api.Domain {
	return api.Domain{
		Has: r.Below(32), Name: string(r.Text(r.Below(70))), Version: string(r.Text(r.Below(5))),
		Chain: r.Number(), Contract: api.Address(r.Text(20)), Salt: api.Hash(r.Text(32)),
	}
}

// cloneStructs tells a list again, in memory of its own.
func cloneStructs(structs []api.Struct) []api.Struct {
	list := slices.Clone(structs)
	for i := range list {
		list[i].Members = slices.Clone(list[i].Members)
	}
	return list
}

// shuffled tells a list in another order.
func shuffled(r *chance.Row, structs []api.Struct) []api.Struct {
	list := cloneStructs(structs)
	for i := range list {
		j := i + r.Below(len(list)-i)
		list[i], list[j] = list[j], list[i]
	}
	return list
}

// spoilStructs makes a small fault in a list of structs.
func spoilStructs(r *chance.Row, structs []api.Struct) []api.Struct {
	list := cloneStructs(structs)
	s := &list[r.Below(len(list))]
	spoilt := []string{"", "1", "uint", "int", "bool", "Nobody", "a b", "T[]", "(bool)", "uint08", "uint8[0]", "uint8[1", "uint8[][]x", s.Name + "[65536]", s.Name + "[65535]"}[r.Below(15)]
	switch r.Below(4) {
	case 0:
		s.Name = spoilt
	case 1:
		return append(list, *s)
	case 2:
		s.Members = append(s.Members, api.Member{Name: spoilt, Type: "bool"})
	case 3:
		s.Members = append(s.Members, api.Member{Name: "m" + strconv.Itoa(r.Below(4)), Type: spoilt})
	}
	return list
}

// spoil makes a small fault in values, or in one within them.
func spoil(r *chance.Row, v *api.Value) {
	if len(v.Items) > 0 && r.Below(4) > 0 {
		spoil(r, &v.Items[r.Below(len(v.Items))])
		return
	}
	switch r.Below(7) {
	case 0:
		v.Num = r.Number()
	case 1:
		v.Data = append(v.Data, 1)
	case 2:
		v.Data = v.Data[:len(v.Data)/2]
	case 3:
		v.Items = append(v.Items, num(uint64(r.Below(3))))
	case 4:
		v.Items = v.Items[:len(v.Items)/2]
	case 5:
		v.Num = api.U256{uint64(r.Below(3))}
	case 6:
		v.Num = numberOf(new(big.Int).Neg(bigOf(v.Num)))
	}
}

// The helpers that the tests lean on.
func TestHelpers(t *testing.T) {
	for _, s := range []string{"uint8", "uint256", "int24", "bytes1", "bytes32", "bytes", "string", "bool", "address"} {
		if !modelBase(s) {
			t.Errorf("modelBase(%s)", s)
		}
	}
	for _, s := range []string{"", "uint", "int", "uint0", "uint7", "uint264", "uint08", "bytes0", "bytes33", "bool1", "bytes01", "bool "} {
		if modelBase(s) {
			t.Errorf("modelBase(%s)", s)
		}
	}
	if inner, count, ok := modelPeel("a[][7]"); inner != "a[]" || count != 7 || !ok {
		t.Error("modelPeel")
	}
	if modelOwn(structOf("A(B b,C[2] c)")) != "A(B b,C[2] c)" || modelOwn(structOf("A()")) != "A()" {
		t.Error("structOf, modelOwn")
	}
	least, most := modelLimits("int8")
	if least.Int64() != -128 || most.Int64() != 127 {
		t.Error("modelLimits")
	}
	r := chance.Row(2300)
	met := map[string]int{}
	for range 500 {
		structs := anyStructs(&r)
		for _, s := range structs {
			met[s.Name]++
		}
		if !modelRight(structs) {
			t.Fatalf("anyStructs: %v", structs)
		}
	}
	if len(met) != len(names) {
		t.Errorf("met: %v", met)
	}
}
