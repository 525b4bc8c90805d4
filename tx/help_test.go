package tx_test

import (
	"bytes"
	"encoding/hex"
	"math/big"
	"slices"
	"strings"
	"testing"

	"waybill/access"
	"waybill/api"
	"waybill/chance"
	"waybill/keccak"
	"waybill/rlp"
)

const (
	most     = 1<<64 - 1 // the greatest limb
	maxInput = 16777216
	kinds    = 5
)

var (
	top    = api.U256{most, most, most, most} // 2^256 - 1
	nobody = api.Address{}
)

// digits reads bytes in hexadecimal digits, blanks between them or not.
func digits(s string) []byte {
	b, err := hex.DecodeString(strings.ReplaceAll(s, " ", ""))
	if err != nil {
		panic("not digits: " + s)
	}
	return b
}

// wide tells x for math/big, narrow goes back: limb by limb, as the document's Words have a number.

func wide(x api.U256) *big.Int {
	n := new(big.Int)
	for _, limb := range slices.Backward(x[:]) {
		n.Lsh(n, 64).Add(n, new(big.Int).SetUint64(limb))
	}
	return n
}

func narrow(n *big.Int) api.U256 {
	if n.Sign() < 0 || n.BitLen() > 256 {
		panic("not below 2^256: " + n.String())
	}
	var x api.U256
	for i := range x {
		x[i] = new(big.Int).Rsh(n, uint(64*i)).Uint64()
	}
	return x
}

func text(b ...byte) api.Item { return api.Item{Data: b} }

func list(items ...api.Item) api.Item { return api.Item{List: true, Items: items} }

// same tells whether two trees are the same; nil and empty are (P0.4).
func same(a, b api.Item) bool {
	return a.List == b.List && bytes.Equal(a.Data, b.Data) && slices.EqualFunc(a.Items, b.Items, same)
}

func sameItems(a, b []api.Item) bool { return slices.EqualFunc(a, b, same) }

func short(b []byte) []byte { return b[:min(len(b), 200)] }

// The models follow the chapter's words. What the chapter leaves to rlp.Decode, access.Parse and access.ParseAuth is theirs, which have tests of their own.

// wordsOf tells the row of a type, by the fields' names.
func wordsOf(kind int) []string {
	return strings.Fields([]string{
		"Nonce Price Gas To Value Data V R S",
		"Chain Nonce Price Gas To Value Data Access V R S",
		"Chain Nonce Tip Cap Gas To Value Data Access V R S",
		"Chain Nonce Tip Cap Gas To Value Data Access BlobCap BlobHashes V R S",
		"Chain Nonce Tip Cap Gas To Value Data Access Auths V R S",
	}[kind])
}

// numbers and smalls tell where the numbers of a transaction are.

func numbers(x *api.Tx) map[string]*api.U256 {
	return map[string]*api.U256{"Price": &x.Price, "Tip": &x.Tip, "Cap": &x.Cap, "Value": &x.Value, "BlobCap": &x.BlobCap, "V": &x.V, "R": &x.R, "S": &x.S}
}

func smalls(x *api.Tx) map[string]*uint64 {
	return map[string]*uint64{"Chain": &x.Chain, "Nonce": &x.Nonce, "Gas": &x.Gas}
}

func modelHead(first byte, n int) []byte {
	if n <= 55 {
		return []byte{first + byte(n)}
	}
	length := big.NewInt(int64(n)).Bytes()
	return append([]byte{first + 0x37 + byte(len(length))}, length...)
}

func modelBytes(it api.Item) []byte {
	if !it.List {
		if len(it.Data) == 1 && it.Data[0] < 0x80 {
			return []byte{it.Data[0]}
		}
		return append(modelHead(0x80, len(it.Data)), it.Data...)
	}
	var held []byte
	for _, inner := range it.Items {
		held = append(held, modelBytes(inner)...)
	}
	return append(modelHead(0xc0, len(held)), held...)
}

func scalar(n *big.Int) api.Item { return text(n.Bytes()...) }

func small(v uint64) api.Item { return scalar(new(big.Int).SetUint64(v)) }

func modelItem(x api.Tx, word string) api.Item {
	if number, ok := numbers(&x)[word]; ok {
		return scalar(wide(*number))
	}
	if number, ok := smalls(&x)[word]; ok {
		return small(*number)
	}
	all := list()
	switch word {
	case "To":
		if x.Create {
			return text()
		}
		return text(x.To[:]...)
	case "Data":
		return text(x.Data...)
	case "Access":
		for _, entry := range x.Access {
			keys := list()
			for _, key := range entry.Keys {
				keys.Items = append(keys.Items, text(key[:]...))
			}
			all.Items = append(all.Items, list(text(entry.Address[:]...), keys))
		}
	case "BlobHashes":
		for _, h := range x.BlobHashes {
			all.Items = append(all.Items, text(h[:]...))
		}
	case "Auths":
		for _, a := range x.Auths {
			all.Items = append(all.Items, list(scalar(wide(a.Chain)), text(a.Address[:]...), small(a.Nonce), small(a.Parity), scalar(wide(a.R)), scalar(wide(a.S))))
		}
	default:
		panic("no field: " + word)
	}
	return all
}

// modelTree tells the list of a transaction's items.
func modelTree(x api.Tx) api.Item {
	whole := list()
	for _, word := range wordsOf(x.Type) {
		whole.Items = append(whole.Items, modelItem(x, word))
	}
	return whole
}

// sealed tells the bytes of a list as an envelope of a type has them.
func sealed(kind int, it api.Item) []byte {
	if kind == 0 {
		return modelBytes(it)
	}
	return append([]byte{byte(kind)}, modelBytes(it)...)
}

func modelDraft(x api.Tx) api.Errno {
	if x.Type != 0 && x.Type != 1 && x.Type != 2 && x.Type != 3 && x.Type != 4 {
		return api.ErrTxType
	}
	for _, word := range []string{"Price", "Tip", "Cap", "Access", "BlobCap", "BlobHashes", "Auths"} {
		it := modelItem(x, word)
		if !slices.Contains(wordsOf(x.Type), word) && len(it.Data)+len(it.Items) > 0 {
			return api.ErrTxField
		}
	}
	if x.Create && x.To != nobody || len(x.BlobHashes) > 4096 {
		return api.ErrTxField
	}
	for _, h := range x.BlobHashes {
		if h[0] != 1 {
			return api.ErrTxField
		}
	}
	if x.Chain > 9223372036854775807 {
		return api.ErrTxChain
	}
	if x.Type >= 3 && x.Create {
		return api.ErrTxTo
	}
	if x.Type == 3 && len(x.BlobHashes) == 0 || x.Type == 4 && len(x.Auths) == 0 {
		return api.ErrTxEmpty
	}
	for _, a := range x.Auths {
		if a.Parity > 255 {
			return api.ErrAuth
		}
	}
	return api.OK
}

func modelChain(v api.U256) (chain uint64, named, odd bool, e api.Errno) {
	n := wide(v)
	if n.IsInt64() && (n.Int64() == 27 || n.Int64() == 28) {
		return 0, false, n.Int64() == 28, api.OK
	}
	twice := new(big.Int).Sub(n, big.NewInt(35))
	c := new(big.Int).Rsh(twice, 1)
	if c.Sign() <= 0 || c.Cmp(big.NewInt(9223372036854775807)) > 0 {
		return 0, false, false, api.ErrTxSig
	}
	return c.Uint64(), true, twice.Bit(0) == 1, api.OK
}

func modelCheck(x api.Tx) api.Errno {
	if e := modelDraft(x); e != api.OK {
		return e
	}
	if x.Type > 0 && wide(x.V).Cmp(big.NewInt(1)) > 0 {
		return api.ErrTxSig
	}
	if x.Type == 0 {
		if chain, _, _, e := modelChain(x.V); e != api.OK || chain != x.Chain {
			return api.ErrTxSig
		}
	}
	if len(sealed(x.Type, modelTree(x))) > maxInput {
		return api.ErrLong
	}
	return api.OK
}

func modelFields(x api.Tx) ([]api.Item, api.Errno) {
	if e := modelDraft(x); e != api.OK {
		return nil, e
	}
	all := modelTree(x).Items
	all = all[:len(all)-3]
	if len(modelBytes(list(all...))) > maxInput {
		return nil, api.ErrLong
	}
	return all, api.OK
}

func modelEncode(x api.Tx) ([]byte, api.Errno) {
	if e := modelCheck(x); e != api.OK {
		return nil, e
	}
	return sealed(x.Type, modelTree(x)), api.OK
}

func modelHash(x api.Tx) (api.Hash, api.Errno) {
	b, e := modelEncode(x)
	if e != api.OK {
		return api.Hash{}, e
	}
	return keccak.Sum(b), api.OK
}

// modelNumber reads a number of at most so many bytes.
func modelNumber(it api.Item, width int) (api.U256, api.Errno) {
	switch {
	case it.List:
		return api.U256{}, api.ErrRlpKind
	case len(it.Data) > width:
		return api.U256{}, api.ErrRlpWide
	case len(it.Data) > 0 && it.Data[0] == 0:
		return api.U256{}, api.ErrRlpZero
	}
	return narrow(new(big.Int).SetBytes(it.Data)), api.OK
}

func modelRead(x *api.Tx, word string, it api.Item) (e api.Errno) {
	if number, ok := numbers(x)[word]; ok {
		*number, e = modelNumber(it, 32)
		return e
	}
	if number, ok := smalls(x)[word]; ok {
		v, e := modelNumber(it, 8)
		*number = v[0]
		return e
	}
	switch word {
	case "To":
		x.Create = len(it.Data) == 0
		if it.List {
			return api.ErrRlpKind
		}
		if !x.Create && copy(x.To[:], it.Data) != 20 || len(it.Data) > 20 {
			return api.ErrRlpWide
		}
	case "Data":
		if it.List {
			return api.ErrRlpKind
		}
		x.Data = it.Data
	case "Access":
		x.Access, e = access.Parse(it)
	case "Auths":
		x.Auths, e = access.ParseAuth(it)
	case "BlobHashes":
		if !it.List {
			return api.ErrRlpKind
		}
		for _, inner := range it.Items {
			if inner.List {
				return api.ErrRlpKind
			}
			if len(inner.Data) != 32 {
				return api.ErrRlpWide
			}
			x.BlobHashes = append(x.BlobHashes, api.Hash(inner.Data))
		}
	default:
		panic("no field: " + word)
	}
	return e
}

func modelDecode(data []byte) (api.Tx, api.Errno) {
	if len(data) > maxInput {
		return api.Tx{}, api.ErrLong
	}
	if len(data) == 0 {
		return api.Tx{}, api.ErrRlpEnd
	}
	x, rest := api.Tx{}, data
	switch b := data[0]; {
	case b == 1 || b == 2 || b == 3 || b == 4:
		x.Type, rest = int(b), data[1:]
	case b <= 0x7f:
		return api.Tx{}, api.ErrTxType
	case b <= 0xbf:
		return api.Tx{}, api.ErrTxForm
	}
	it, e := rlp.Decode(rest)
	if e != api.OK {
		return api.Tx{}, e
	}
	if !it.List {
		return api.Tx{}, api.ErrRlpKind
	}
	words := wordsOf(x.Type)
	if len(it.Items) != len(words) {
		return api.Tx{}, api.ErrTxFields
	}
	for i, word := range words {
		if e := modelRead(&x, word, it.Items[i]); e != api.OK {
			return api.Tx{}, e
		}
	}
	if x.Type == 0 {
		if x.Chain, _, _, e = modelChain(x.V); e != api.OK {
			return api.Tx{}, api.ErrTxSig
		}
	}
	if e := modelCheck(x); e != api.OK {
		return api.Tx{}, e
	}
	return x, api.OK
}

// modelSame holds what is written of two transactions against each other: all their fields, not those of their types alone.
func modelSame(a, b api.Tx) bool {
	words := append(strings.Fields("Price Tip Cap Value BlobCap V R S Chain Nonce Gas Data Access BlobHashes Auths"), "To")
	for _, word := range words {
		if !same(modelItem(a, word), modelItem(b, word)) {
			return false
		}
	}
	return a.Type == b.Type && a.Create == b.Create && a.To == b.To
}

// anyAddress and anyKey tell one by chance, often with zeros ahead.

func anyAddress(row *chance.Row) api.Address {
	if row.Below(2) == 0 {
		return api.Address{19: byte(row.Below(3))}
	}
	return api.Address(row.Text(20))
}

func anyKey(row *chance.Row) api.Hash {
	if row.Below(2) == 0 {
		return api.Hash{31: byte(row.Below(3))}
	}
	return api.Hash(row.Text(32))
}

// anyNumber and anySmall tell numbers of any length, often 0.

func anyNumber(row *chance.Row) api.U256 {
	if row.Below(4) == 0 {
		return api.U256{uint64(row.Below(200))}
	}
	return row.Number()
}

func anySmall(row *chance.Row) uint64 { return row.Next() >> row.Below(65) }

func anyEntries(row *chance.Row, most int) []api.AccessEntry {
	var all []api.AccessEntry
	for range row.Below(most + 1) {
		entry := api.AccessEntry{Address: anyAddress(row)}
		for range row.Below(most + 1) {
			entry.Keys = append(entry.Keys, anyKey(row))
		}
		all = append(all, entry)
	}
	return all
}

func anyAuth(row *chance.Row) api.Auth {
	return api.Auth{Chain: anyNumber(row), Address: anyAddress(row), Nonce: anySmall(row), Parity: uint64(row.Below(256)) >> row.Below(9), R: anyNumber(row), S: anyNumber(row)}
}

func anyBlob(row *chance.Row) api.Hash {
	h := anyKey(row)
	h[0] = 1
	return h
}

// anyTx tells a well-formed transaction of a type.
func anyTx(row *chance.Row, kind int) api.Tx {
	x := api.Tx{Type: kind, Chain: anySmall(row) >> 1, Nonce: anySmall(row), Gas: anySmall(row), To: anyAddress(row), Value: anyNumber(row), Data: row.Text(row.Below(80)), R: anyNumber(row), S: anyNumber(row)}
	if kind < 3 && row.Below(3) == 0 {
		x.Create, x.To = true, nobody
	}
	if kind < 2 {
		x.Price = anyNumber(row)
	} else {
		x.Tip, x.Cap = anyNumber(row), anyNumber(row)
	}
	if kind > 0 {
		x.Access, x.V = anyEntries(row, 3), api.U256{uint64(row.Below(2))}
	} else {
		x.V = legacyV(x.Chain, row.Below(2))
	}
	switch kind {
	case 3:
		x.BlobCap = anyNumber(row)
		for range 1 + row.Below(4) {
			x.BlobHashes = append(x.BlobHashes, anyBlob(row))
		}
	case 4:
		for range 1 + row.Below(3) {
			x.Auths = append(x.Auths, anyAuth(row))
		}
	}
	return x
}

// plain tells the least well-formed transaction of a type.
func plain(kind int) api.Tx {
	return []api.Tx{
		{Type: 0, V: api.U256{27}}, {Type: 1}, {Type: 2}, {Type: 3, BlobHashes: []api.Hash{{1}}}, {Type: 4, Auths: []api.Auth{{}}},
	}[kind]
}

// legacyV tells the V of type 0 that names a chain; 0: that names none.
func legacyV(chain uint64, odd int) api.U256 {
	if chain == 0 {
		return api.U256{27 + uint64(odd)}
	}
	n := new(big.Int).SetUint64(chain)
	return narrow(n.Lsh(n, 1).Add(n, big.NewInt(35+int64(odd))))
}

// cloned tells a transaction in memory of its own.
func cloned(x api.Tx) api.Tx {
	x.Data, x.Access, x.BlobHashes, x.Auths = slices.Clone(x.Data), slices.Clone(x.Access), slices.Clone(x.BlobHashes), slices.Clone(x.Auths)
	for i := range x.Access {
		x.Access[i].Keys = slices.Clone(x.Access[i].Keys)
	}
	return x
}

// changes are what an item may become by one step: most of them are wrong where it stands.
func changes(it api.Item) []api.Item {
	all := []api.Item{text(), list(), list(it), list(text()), text(0), text(1), text(2), text(0x80), text(1, 0), text(0, 1), text(28), text(38)}
	for _, n := range []int{8, 9, 19, 20, 21, 31, 32, 33} {
		all = append(all, text(make([]byte, n)...), text(bytes.Repeat([]byte{1}, n)...), text(bytes.Repeat([]byte{0xff}, n)...))
	}
	if n := len(it.Data); n > 0 {
		for _, data := range [][]byte{it.Data[1:], it.Data[:n-1], append([]byte{0}, it.Data...), append(slices.Clone(it.Data), 0), append([]byte{0}, it.Data[1:]...), append([]byte{2}, it.Data[1:]...)} {
			all = append(all, text(data...))
		}
		all = append(all, list(it, it))
	}
	if n := len(it.Items); n > 0 {
		swapped := slices.Clone(it.Items)
		swapped[0], swapped[n-1] = swapped[n-1], swapped[0]
		for _, items := range [][]api.Item{it.Items[1:], it.Items[:n-1], append(slices.Clone(it.Items), it.Items[n-1]), append(slices.Clone(it.Items), list()), append([]api.Item{text()}, it.Items...), swapped} {
			all = append(all, list(items...))
		}
		all = append(all, it.Items[0], it.Items[n-1])
	}
	return all
}

// eachChange hands over a tree with each item anywhere in it changed in each way, one at a time.
func eachChange(it api.Item, f func(api.Item)) {
	for _, other := range changes(it) {
		f(other)
	}
	for i, inner := range it.Items {
		eachChange(inner, func(other api.Item) { f(replaced(it, i, other)) })
	}
}

// replaced tells a tree with another item at a place of its own list.
func replaced(it api.Item, i int, other api.Item) api.Item {
	it.Items = slices.Clone(it.Items)
	it.Items[i] = other
	return it
}

// spoilt changes an item by chance, somewhere in the tree.
func spoilt(row *chance.Row, it api.Item) api.Item {
	if len(it.Items) > 0 && row.Below(10) > 0 {
		i := row.Below(len(it.Items))
		return replaced(it, i, spoilt(row, it.Items[i]))
	}
	all := changes(it)
	return all[row.Below(len(all))]
}

// The helpers themselves: an error in them would hide one in the program.
func TestHelpers(t *testing.T) {
	row := chance.Row(1500)
	for range 200 {
		if x := row.Number(); narrow(wide(x)) != x {
			t.Errorf("%x is not there and back", x)
		}
	}
	if got := modelBytes(list(text('c', 'a', 't'), text(), text(0x7f), text(0x80), list())); !bytes.Equal(got, digits("c9 83636174 80 7f 8180 c0")) {
		t.Errorf("modelBytes: %x", got)
	}
	for kind, count := range []int{9, 11, 12, 14, 13} {
		if words := wordsOf(kind); len(words) != count || !slices.Equal(words[count-3:], []string{"V", "R", "S"}) {
			t.Errorf("the row of type %d: %v", kind, words)
		}
		if e := modelCheck(plain(kind)); e != api.OK {
			t.Errorf("the least one of type %d: %d", kind, e)
		}
		for range 200 {
			x := anyTx(&row, kind)
			b, e := modelEncode(x)
			if y, f := modelDecode(b); e != api.OK || f != api.OK || !modelSame(x, y) || !modelSame(x, cloned(x)) {
				t.Errorf("the models, there and back: %d, %d", e, f)
			}
		}
	}
	tree := modelTree(anyTx(&row, 4))
	before := modelBytes(tree)
	steps, alike := 0, 0
	eachChange(tree, func(other api.Item) {
		steps++
		if same(other, tree) {
			alike++
		}
	})
	if steps < 500 || alike > steps/10 || !bytes.Equal(modelBytes(tree), before) {
		t.Errorf("eachChange: %d steps, %d change nothing, or the tree has changed", steps, alike)
	}
	for _, c := range []struct {
		chain uint64
		odd   int
		want  api.U256
	}{{0, 0, api.U256{27}}, {0, 1, api.U256{28}}, {1, 0, api.U256{37}}, {api.MaxChain, 1, api.U256{34, 1}}, {1 << 63, 0, api.U256{35, 1}}} {
		if got := legacyV(c.chain, c.odd); got != c.want {
			t.Errorf("legacyV(%d, %d) = %v", c.chain, c.odd, got)
		}
	}
}
