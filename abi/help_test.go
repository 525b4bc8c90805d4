package abi_test

import (
	"bytes"
	"math/big"
	"regexp"
	"slices"
	"strconv"
	"strings"
	"testing"

	"waybill/api"
	"waybill/chance"
)

// short cuts a text to what a message can bear.
func short(b []byte) []byte { return b[:min(len(b), 400)] }

func power(n int) *big.Int { return new(big.Int).Lsh(big.NewInt(1), uint(n)) }

func plus(x *big.Int, n int64) *big.Int { return new(big.Int).Add(x, big.NewInt(n)) }

// numberOf tells a number modulo 2^256.
func numberOf(v *big.Int) api.U256 {
	v = new(big.Int).Mod(v, power(256))
	var x api.U256
	for i := range x {
		x[i] = new(big.Int).Rsh(v, uint(64*i)).Uint64()
	}
	return x
}

func bigOf(x api.U256) *big.Int {
	v := new(big.Int)
	for _, limb := range slices.Backward(x[:]) {
		v.Add(v.Lsh(v, 64), new(big.Int).SetUint64(limb))
	}
	return v
}

// Values: of a number, of one below 0, of a text, of a list or tuple.

func num(v uint64) api.Value         { return api.Value{Num: api.U256{v}} }
func bigNum(v *big.Int) api.Value    { return api.Value{Num: numberOf(v)} }
func minus(v int64) api.Value        { return bigNum(big.NewInt(-v)) }
func text(s string) api.Value        { return api.Value{Data: []byte(s)} }
func row(l ...api.Value) api.Value   { return api.Value{Items: l} }
func all(l ...api.Value) []api.Value { return l }

func same(a, b []api.Value) bool {
	return slices.EqualFunc(a, b, func(x, y api.Value) bool {
		return x.Num == y.Num && bytes.Equal(x.Data, y.Data) && same(x.Items, y.Items)
	})
}

// words tells the words of numbers and of texts.
func words(l ...any) string {
	s := ""
	for _, x := range l {
		switch x := x.(type) {
		case int:
			s += modelWord(big.NewInt(int64(x)))
		case *big.Int:
			s += modelWord(x)
		case string:
			s += x + strings.Repeat("\x00", 32-len(x))
		default:
			panic("neither a number nor a text")
		}
	}
	return s
}

func modelWord(x *big.Int) string { return string(x.FillBytes(make([]byte, 32))) }

// model is a type as the chapter has it.
type model struct {
	base  string  // "uint", "int", "address", "bool", "bytes", "string", "list" or "tuple"
	n     int     // bits, width or count; 0 where none is told
	inner []model // a list's one type, a tuple's types
}

var (
	modelNumbered = regexp.MustCompile(`^(uint|int|bytes)([1-9][0-9]{0,4})?$`)
	modelCount    = regexp.MustCompile(`^[1-9][0-9]{0,4}$`)
	modelName     = regexp.MustCompile(`^[A-Za-z_$][A-Za-z0-9_$]*$`)
)

// modelType reads a text, from its end to its begin: what is around stands behind.
func modelType(s string) (model, bool) {
	m, ok := modelRead(s)
	return m, ok && len(s) <= 4096 && m.deep() <= 32 && m.narrow()
}

func modelRead(s string) (model, bool) {
	switch {
	case strings.HasSuffix(s, "]"):
		return modelList(s)
	case strings.HasPrefix(s, "(") && strings.HasSuffix(s, ")"):
		m := model{base: "tuple"}
		for _, part := range modelSplit(s[1 : len(s)-1]) {
			inner, ok := modelRead(part)
			if !ok {
				return model{}, false
			}
			m.inner = append(m.inner, inner)
		}
		return m, true
	case s == "address" || s == "bool" || s == "string":
		return model{base: s}, true
	}
	found := modelNumbered.FindStringSubmatch(s)
	if found == nil {
		return model{}, false
	}
	n, _ := strconv.Atoi(found[2])
	m := model{base: found[1], n: n}
	if m.base == "bytes" {
		return m, n <= 32
	}
	if found[2] == "" {
		m.n = 256
	}
	return m, m.n%8 == 0 && m.n <= 256
}

func modelList(s string) (model, bool) {
	open := strings.LastIndex(s, "[")
	if open < 0 {
		return model{}, false
	}
	count := s[open+1 : len(s)-1]
	n, _ := strconv.Atoi(count)
	inner, ok := modelRead(s[:open])
	return model{base: "list", n: n, inner: []model{inner}}, ok && (count == "" || modelCount.MatchString(count) && n <= 65535)
}

// modelSplit cuts at the commas that stand within no bracket. Where the brackets do not match, a piece is no type.
func modelSplit(s string) []string {
	var parts []string
	begin, open := 0, 0
	for i, c := range []byte(s) {
		switch {
		case c == '(':
			open++
		case c == ')':
			open--
		case c == ',' && open == 0:
			parts = append(parts, s[begin:i])
			begin = i + 1
		}
		if open < 0 {
			return []string{"no type"}
		}
	}
	return append(parts, s[begin:])
}

func (m model) deep() int {
	deep := 0
	for _, inner := range m.inner {
		deep = max(deep, inner.deep())
	}
	if m.inner != nil {
		deep++
	}
	return deep
}

func (m model) width() int {
	switch {
	case m.base == "list" && m.n > 0:
		return m.n * m.inner[0].width()
	case m.base == "tuple":
		return modelWidth(m.inner)
	}
	return 1
}

func modelWidth(row []model) int {
	sum := 0
	for _, m := range row {
		sum += m.width()
	}
	return sum
}

// narrow tells whether neither the type nor one within it is too wide.
func (m model) narrow() bool {
	for _, inner := range m.inner {
		if !inner.narrow() {
			return false
		}
	}
	return m.width() <= 65536
}

func (m model) dynamic() bool {
	switch m.base {
	case "bytes":
		return m.n == 0
	case "string":
		return true
	case "list":
		return m.n == 0 || m.inner[0].dynamic()
	}
	return slices.ContainsFunc(m.inner, model.dynamic)
}

func (m model) head() int {
	switch {
	case m.dynamic():
		return 1
	case m.base == "list":
		return m.n * m.inner[0].head()
	case m.base == "tuple":
		return modelHeads(m.inner)
	}
	return 1
}

func modelHeads(row []model) int {
	sum := 0
	for _, m := range row {
		sum += m.head()
	}
	return sum
}

func (m model) own() string {
	n := ""
	if m.n > 0 {
		n = strconv.Itoa(m.n)
	}
	switch m.base {
	case "list":
		return m.inner[0].own() + "[" + n + "]"
	case "tuple":
		return "(" + strings.Join(modelOwn(m.inner), ",") + ")"
	}
	return m.base + n
}

func modelOwn(row []model) []string {
	var texts []string
	for _, m := range row {
		texts = append(texts, m.own())
	}
	return texts
}

// modelRow reads the types of a row.
func modelRow(types []string) ([]model, bool) {
	var list []model
	for _, s := range types {
		m, ok := modelType(s)
		if !ok {
			return nil, false
		}
		list = append(list, m)
	}
	return list, modelWidth(list) <= 65536
}

// modelSignature reads a signature.
func modelSignature(s string) (own string, types []model, ok bool) {
	open := strings.Index(s, "(")
	if open < 0 || len(s) > 4096 || !modelName.MatchString(s[:open]) {
		return "", nil, false
	}
	if s[open:] == "()" {
		return s, nil, true
	}
	m, ok := modelType(s[open:])
	if !ok || m.base != "tuple" {
		return "", nil, false
	}
	return s[:open] + m.own(), m.inner, true
}

// times tells what a list's values, or a tuple's, are types of.
func (m model) times(n int) []model {
	if m.base == "list" {
		return slices.Repeat(m.inner, n)
	}
	return m.inner
}

// limits tells the least and the greatest number of a type, below 0 as it is meant.
func (m model) limits() (least, most *big.Int) {
	switch m.base {
	case "int":
		return new(big.Int).Neg(power(m.n - 1)), plus(power(m.n-1), -1)
	case "address":
		return new(big.Int), plus(power(160), -1)
	case "bool":
		return new(big.Int), big.NewInt(1)
	}
	return new(big.Int), plus(power(m.n), -1)
}

// fits tells whether a number is one of a type.
func (m model) fits(x *big.Int) bool {
	least, most := m.limits()
	if least.Sign() < 0 && x.Bit(255) == 1 {
		x = new(big.Int).Sub(x, power(256))
	}
	return x.Cmp(least) >= 0 && x.Cmp(most) <= 0
}

func (m model) check(v api.Value) api.Errno {
	hasNum, hasData, hasItems := v.Num != api.U256{}, len(v.Data) > 0, len(v.Items) > 0
	kind, wide := false, false
	switch m.base {
	case "bytes", "string":
		kind = hasNum || hasItems
		wide = m.n > 0 && len(v.Data) != m.n
	case "list":
		kind = hasNum || hasData
		wide = m.n > 0 && len(v.Items) != m.n
	case "tuple":
		kind = hasNum || hasData
		wide = len(v.Items) != len(m.inner)
	default:
		kind = hasData || hasItems
		wide = !m.fits(bigOf(v.Num))
	}
	switch {
	case kind:
		return api.ErrAbiKind
	case wide:
		return api.ErrAbiWide
	}
	for i, inner := range m.times(len(v.Items)) {
		if e := inner.check(v.Items[i]); e != api.OK {
			return e
		}
	}
	return api.OK
}

// fill fills a text behind up to whole words.
func fill(s string) string { return s + strings.Repeat("\x00", (32-len(s)%32)%32) }

// lay tells the bytes of a value of the type.
func (m model) lay(v api.Value) string {
	switch m.base {
	case "bytes", "string":
		if m.n > 0 {
			return fill(string(v.Data))
		}
		return words(len(v.Data)) + fill(string(v.Data))
	case "list":
		count := ""
		if m.n == 0 {
			count = words(len(v.Items))
		}
		return count + modelLay(m.times(len(v.Items)), v.Items)
	case "tuple":
		return modelLay(m.inner, v.Items)
	}
	return modelWord(bigOf(v.Num))
}

// modelLay tells the bytes of a row.
func modelLay(types []model, values []api.Value) string {
	var heads, parts strings.Builder
	for i, m := range types {
		if m.dynamic() {
			heads.WriteString(words(32*modelHeads(types) + parts.Len()))
			parts.WriteString(m.lay(values[i]))
		} else {
			heads.WriteString(m.lay(values[i]))
		}
	}
	return heads.String() + parts.String()
}

// modelEncode is P22.3.
func modelEncode(types []string, values []api.Value) ([]byte, api.Errno) {
	list, ok := modelRow(types)
	if !ok {
		return nil, api.ErrAbiType
	}
	return modelArguments("", list, values)
}

func modelArguments(selector string, types []model, values []api.Value) ([]byte, api.Errno) {
	if e := modelCheck(types, values); e != api.OK {
		return nil, e
	}
	s := selector + modelLay(types, values)
	if len(s) > api.MaxInput {
		return nil, api.ErrLong
	}
	return []byte(s), api.OK
}

func modelCheck(types []model, values []api.Value) api.Errno {
	if len(values) != len(types) {
		return api.ErrAbiKind
	}
	for i, m := range types {
		if e := m.check(values[i]); e != api.OK {
			return e
		}
	}
	return api.OK
}

// modelDecode is P22.4.
func modelDecode(types []string, data []byte) ([]api.Value, api.Errno) {
	list, ok := modelRow(types)
	switch {
	case !ok:
		return nil, api.ErrAbiType
	case len(data) > api.MaxInput:
		return nil, api.ErrLong
	}
	return modelValues(list, string(data))
}

func modelValues(types []model, data string) ([]api.Value, api.Errno) {
	values, end, e := modelTake(types, data)
	switch {
	case e != api.OK:
		return nil, e
	case end != len(data):
		return nil, api.ErrAbiRest
	}
	return values, api.OK
}

// modelTake reads a row at the begin of data, and tells where it ends.
func modelTake(types []model, data string) (values []api.Value, end int, e api.Errno) {
	end = 32 * modelHeads(types)
	if end > len(data) {
		return nil, 0, api.ErrAbiShort
	}
	at := 0
	for _, m := range types {
		from := at
		if m.dynamic() {
			if data[at:at+32] != words(end) {
				return nil, 0, api.ErrAbiPlace
			}
			from = end
		}
		v, n, e := m.take(data[from:])
		if e != api.OK {
			return nil, 0, e
		}
		values = append(values, v)
		at += 32 * m.head()
		if m.dynamic() {
			end += n
		}
	}
	return values, end, api.OK
}

// take reads a value at the begin of data, and tells where it ends.
func (m model) take(data string) (api.Value, int, api.Errno) {
	switch m.base {
	case "list", "tuple":
		return m.takeRow(data)
	case "bytes", "string":
		if m.n > 0 {
			return modelFilled(data, m.n)
		}
		if len(data) < 32 {
			return api.Value{}, 0, api.ErrAbiShort
		}
		n := new(big.Int).SetBytes([]byte(data[:32]))
		if n.Cmp(big.NewInt(1<<40)) > 0 {
			return api.Value{}, 0, api.ErrAbiShort
		}
		v, end, e := modelFilled(data[32:], int(n.Int64()))
		return v, 32 + end, e
	}
	x := new(big.Int).SetBytes([]byte(data[:32]))
	if !m.fits(x) {
		return api.Value{}, 0, api.ErrAbiWide
	}
	return bigNum(x), 32, api.OK
}

func (m model) takeRow(data string) (api.Value, int, api.Errno) {
	count, n := 0, m.n
	if m.base == "list" && m.n == 0 {
		if len(data) < 32 {
			return api.Value{}, 0, api.ErrAbiShort
		}
		big := new(big.Int).SetBytes([]byte(data[:32]))
		if !big.IsInt64() || big.Int64() > int64(len(data)) {
			return api.Value{}, 0, api.ErrAbiShort
		}
		count, n = 32, int(big.Int64())
	}
	items, end, e := modelTake(m.times(n), data[count:])
	return api.Value{Items: items}, count + end, e
}

func modelFilled(data string, n int) (api.Value, int, api.Errno) {
	end := (n + 31) / 32 * 32
	switch {
	case end > len(data):
		return api.Value{}, 0, api.ErrAbiShort
	case strings.Trim(data[n:end], "\x00") != "":
		return api.Value{}, 0, api.ErrAbiPad
	}
	return text(data[:n]), end, api.OK
}

// modelPacked is P22.6.
func modelPacked(types []string, values []api.Value) ([]byte, api.Errno) {
	list, ok := modelRow(types)
	if !ok || slices.ContainsFunc(list, func(m model) bool { return !m.packs() }) {
		return nil, api.ErrAbiType
	}
	if e := modelCheck(list, values); e != api.OK {
		return nil, e
	}
	var out strings.Builder
	for i, m := range list {
		out.WriteString(m.pack(values[i]))
	}
	if out.Len() > api.MaxInput {
		return nil, api.ErrLong
	}
	return []byte(out.String()), api.OK
}

func (m model) packs() bool {
	switch m.base {
	case "tuple":
		return false
	case "list":
		return m.inner[0].inner == nil && !m.inner[0].dynamic()
	}
	return true
}

func (m model) pack(v api.Value) string {
	word := modelWord(bigOf(v.Num))
	switch m.base {
	case "uint", "int":
		return word[32-m.n/8:]
	case "address":
		return word[12:]
	case "bool":
		return word[31:]
	case "list":
		s := ""
		for _, item := range v.Items {
			s += m.inner[0].lay(item)
		}
		return s
	}
	return string(v.Data)
}

// anyBase tells the text of a base by chance.
func anyBase(r *chance.Row) string {
	switch r.Below(10) {
	case 0:
		return "uint" + strconv.Itoa(8*(1+r.Below(32)))
	case 1:
		return "int" + strconv.Itoa(8*(1+r.Below(32)))
	case 2:
		return "bytes" + strconv.Itoa(1+r.Below(32))
	default:
		return []string{"uint", "int", "address", "bool", "bytes", "string", "uint8", "int16", "bytes32"}[r.Below(9)]
	}
}

// anyType tells a type's text by chance, at most so deep.
func anyType(r *chance.Row, deep int) string {
	if deep == 0 {
		return anyBase(r)
	}
	switch r.Below(5) {
	case 0:
		return anyType(r, deep-1) + "[]"
	case 1:
		return anyType(r, deep-1) + "[" + strconv.Itoa(1+r.Below(4)) + "]"
	case 2:
		return "(" + strings.Join(anyTypes(r, 1+r.Below(3), deep-1), ",") + ")"
	}
	return anyBase(r)
}

func anyTypes(r *chance.Row, n, deep int) []string {
	var types []string
	for range n {
		types = append(types, anyType(r, deep))
	}
	return types
}

// anyNumber tells a number of the type, often the least or the greatest.
func (m model) anyNumber(r *chance.Row) *big.Int {
	least, most := m.limits()
	switch r.Below(5) {
	case 0:
		return least
	case 1:
		return most
	case 2:
		return big.NewInt(int64(r.Below(2)))
	}
	x := new(big.Int).Mod(bigOf(r.Number()), plus(new(big.Int).Sub(most, least), 1))
	return x.Add(x, least)
}

// any tells a value of the type by chance.
func (m model) any(r *chance.Row) api.Value {
	switch m.base {
	case "bytes", "string":
		n := m.n
		if n == 0 {
			n = []int{0, 1, 31, 32, 33, 64, r.Below(100)}[r.Below(7)]
		}
		return api.Value{Data: r.Text(n)}
	case "list":
		n := m.n
		if n == 0 {
			n = r.Below(4)
		}
		return api.Value{Items: modelAny(m.times(n), r)}
	case "tuple":
		return api.Value{Items: modelAny(m.inner, r)}
	}
	return bigNum(m.anyNumber(r))
}

func modelAny(types []model, r *chance.Row) []api.Value {
	var values []api.Value
	for _, m := range types {
		values = append(values, m.any(r))
	}
	return values
}

// anyRow tells types and values of them by chance.
func anyRow(r *chance.Row) ([]string, []api.Value) {
	types := anyTypes(r, r.Below(4), r.Below(4))
	list, ok := modelRow(types)
	if !ok {
		panic("not types: " + strings.Join(types, " "))
	}
	return types, modelAny(list, r)
}

// spoil makes a small fault in a value, or in one within it.
func spoil(r *chance.Row, v *api.Value) {
	if len(v.Items) > 0 && r.Below(3) > 0 {
		spoil(r, &v.Items[r.Below(len(v.Items))])
		return
	}
	switch r.Below(8) {
	case 0:
		v.Num = r.Number()
	case 1:
		v.Data = append(v.Data, 1)
	case 2:
		v.Data = v.Data[:len(v.Data)/2]
	case 3:
		v.Items = append(v.Items, num(uint64(r.Below(3))))
	case 4:
		v.Items = v.Items[:len(v.Items)/2]
	case 5:
		v.Num = api.U256{uint64(r.Below(3))}
	case 6:
		v.Num = numberOf(new(big.Int).Neg(bigOf(v.Num)))
	case 7:
		bit := power(r.Below(256))
		v.Num = numberOf(bit.Xor(bit, bigOf(v.Num)))
	}
}

// The helpers that the tests lean on.
func TestHelpers(t *testing.T) {
	for s, own := range map[string]string{"uint": "uint256", "(int,bytes3[2][])": "(int256,bytes3[2][])", "((bool))": "((bool))", "string[4]": "string[4]"} {
		if m, ok := modelType(s); !ok || m.own() != own {
			t.Errorf("modelType(%s): %v, %s", s, ok, m.own())
		}
	}
	for _, s := range []string{"", "()", "(a)", "(uint8),(uint8)", "(uint8", "uint8)", "uint7", "uint0", "bytes33", "bool[0]", "bool[65536]", "bool]", "(bool))(bool)", "bool1"} {
		if _, ok := modelType(s); ok {
			t.Errorf("modelType(%s) is one", s)
		}
	}
	m, _ := modelType("int8")
	if !m.fits(big.NewInt(127)) || m.fits(big.NewInt(128)) || !m.fits(bigOf(minus(128).Num)) || m.fits(bigOf(minus(129).Num)) {
		t.Error("model: int8")
	}
	if words(1, "a") != strings.Repeat("\x00", 31)+"\x01a"+strings.Repeat("\x00", 31) || fill("") != "" || len(fill("a")) != 32 {
		t.Error("words, fill")
	}
	if numberOf(big.NewInt(-1)) != (api.U256{1<<64 - 1, 1<<64 - 1, 1<<64 - 1, 1<<64 - 1}) || bigOf(numberOf(power(200))).Cmp(power(200)) != 0 {
		t.Error("numberOf, bigOf")
	}
	if !same(all(row(num(1), text("a"))), all(row(num(1), text("a")))) || same(all(num(1)), all(num(2))) || same(all(text("")), all(text("a"))) || same(all(row()), all(row(num(0)))) {
		t.Error("same")
	}
}
