package state_test

import (
	"bytes"
	"encoding/hex"
	"fmt"
	"maps"
	"math/big"
	"slices"
	"strings"
	"testing"

	"waybill/api"
	"waybill/chance"
	"waybill/keccak"
	"waybill/state"
	"waybill/trie"
)

const (
	emptyRoot = "56e81f171bcc55a6ff8345e692c0f86e5b48e01b996cadc001622fb5e363b421" // the Keccak of the byte 80
	emptyCode = "c5d2460186f7233c927e7db2dcc703c0e500b653ca82273b7bfad8045d85a470" // the Keccak of nothing
	lastNonce = 1<<64 - 1
)

var (
	one   = api.Address{19: 1}
	two   = api.Address{19: 2}
	three = api.Address{0: 0xff}
	cell  = api.Hash{31: 7}
	other = api.Hash{0: 9}
	top   = api.U256{1<<64 - 1, 1<<64 - 1, 1<<64 - 1, 1<<64 - 1}
)

// unhex reads bytes in hexadecimal digits; blanks between them count for nothing.
func unhex(s string) []byte {
	b, err := hex.DecodeString(strings.ReplaceAll(s, " ", ""))
	if err != nil {
		panic("not digits: " + s)
	}
	return b
}

func hashOf(s string) api.Hash       { return api.Hash(unhex(s)) }
func addressOf(s string) api.Address { return api.Address(unhex(s)) }

// small tells a number of 64 bits.
func small(v uint64) api.U256 { return api.U256{v} }

// numberOf tells a number that fits.
func numberOf(v *big.Int) api.U256 {
	if v.Sign() < 0 || v.BitLen() > 256 {
		panic("no number: " + v.String())
	}
	var x api.U256
	for i := range x {
		x[i] = new(big.Int).Rsh(v, uint(64*i)).Uint64()
	}
	return x
}

func bigOf(x api.U256) *big.Int {
	v := new(big.Int)
	for _, limb := range slices.Backward(x[:]) {
		v.Add(v.Lsh(v, 64), new(big.Int).SetUint64(limb))
	}
	return v
}

// modelAccount is what an address has. It is never written to: a change makes another one.
type modelAccount struct {
	nonce, balance *big.Int
	code           string
	cells          map[api.Hash]*big.Int // those that are not 0
}

func (x modelAccount) isThere() bool {
	return x.nonce.Sign() != 0 || x.balance.Sign() != 0 || x.code != "" || len(x.cells) > 0
}

// model is a state by the chapter's words: a mark remembers the whole of it.
type model struct {
	now   map[api.Address]modelAccount
	marks []map[api.Address]modelAccount
}

func newModel() *model { return &model{now: map[api.Address]modelAccount{}} }

func (m *model) at(a api.Address) modelAccount {
	if x, ok := m.now[a]; ok {
		return x
	}
	return modelAccount{nonce: new(big.Int), balance: new(big.Int)}
}

func (m *model) load(a api.Address, key api.Hash) *big.Int {
	if v, ok := m.at(a).cells[key]; ok {
		return v
	}
	return new(big.Int)
}

// there tells the addresses with accounts, by rising bytes.
func (m *model) there() []api.Address {
	var list []api.Address
	for a, x := range m.now {
		if x.isThere() {
			list = append(list, a)
		}
	}
	slices.SortFunc(list, func(a, b api.Address) int { return strings.Compare(string(a[:]), string(b[:])) })
	return list
}

// total tells all balances together.
func (m *model) total() *big.Int {
	sum := new(big.Int)
	for _, x := range m.now {
		sum.Add(sum, x.balance)
	}
	return sum
}

// step is one call that may change a state.
type step struct {
	kind   string
	a, b   api.Address
	key    api.Hash
	v      api.U256
	nonce  uint64
	code   string
	number int
}

// String tells a step for a fault's telling; of its code the length alone.
func (o step) String() string {
	return fmt.Sprintf("%s(%x, %x, %x, %v, %d, %d bytes, %d)", o.kind, o.a, o.b, o.key, o.v, o.nonce, len(o.code), o.number)
}

// answered tells what a call answers as a number: the error's, or 1 for true, or a place.
func (o step) answered(s *state.State) int {
	switch o.kind {
	case "Mint":
		return int(s.Mint(o.a, o.v))
	case "Burn":
		return int(s.Burn(o.a, o.v))
	case "Transfer":
		return int(s.Transfer(o.a, o.b, o.v))
	case "Bump":
		return int(s.Bump(o.a))
	case "SetNonce":
		return int(s.SetNonce(o.a, o.nonce))
	case "SetCode":
		return int(s.SetCode(o.a, []byte(o.code)))
	case "Store":
		return int(s.Store(o.a, o.key, o.v))
	case "Destroy":
		if s.Destroy(o.a) {
			return 1
		}
		return 0
	case "Snapshot":
		return s.Snapshot()
	case "Revert":
		return int(s.Revert(o.number))
	}
	panic("no call: " + o.kind)
}

// modelled does the same to the model, and tells what is to be answered.
func (o step) modelled(m *model) int {
	x := m.at(o.a)
	switch o.kind {
	case "Mint":
		x.balance = new(big.Int).Add(x.balance, bigOf(o.v))
		if x.balance.BitLen() > 256 {
			return 211
		}
	case "Burn":
		x.balance = new(big.Int).Sub(x.balance, bigOf(o.v))
		if x.balance.Sign() < 0 {
			return 210
		}
	case "Transfer":
		return o.transferred(m)
	case "Bump":
		x.nonce = new(big.Int).Add(x.nonce, big.NewInt(1))
		if x.nonce.BitLen() > 64 {
			return 212
		}
	case "SetNonce":
		x.nonce = new(big.Int).SetUint64(o.nonce)
	case "SetCode":
		if len(o.code) > 16777216 {
			return 2
		}
		x.code = o.code
	case "Store":
		x.cells = maps.Clone(x.cells)
		delete(x.cells, o.key)
		if v := bigOf(o.v); v.Sign() != 0 {
			if x.cells == nil {
				x.cells = map[api.Hash]*big.Int{}
			}
			x.cells[o.key] = v
		}
	case "Destroy":
		delete(m.now, o.a)
		if x.isThere() {
			return 1
		}
		return 0
	case "Snapshot":
		m.marks = append(m.marks, maps.Clone(m.now))
		return len(m.marks) - 1
	case "Revert":
		if o.number < 0 || o.number >= len(m.marks) {
			return 213
		}
		m.now, m.marks = m.marks[o.number], m.marks[:o.number]
		return 0
	}
	m.now[o.a] = x
	return 0
}

func (o step) transferred(m *model) int {
	from, to := m.at(o.a), m.at(o.b)
	from.balance = new(big.Int).Sub(from.balance, bigOf(o.v))
	to.balance = new(big.Int).Add(to.balance, bigOf(o.v))
	switch {
	case from.balance.Sign() < 0:
		return 210
	case o.a == o.b:
		return 0
	case to.balance.BitLen() > 256:
		return 211
	}
	m.now[o.a], m.now[o.b] = from, to
	return 0
}

// both does a step to a state and to its model, and holds the answers against each other.
func both(t *testing.T, s *state.State, m *model, o step) int {
	t.Helper()
	got, want := o.answered(s), o.modelled(m)
	if got != want {
		t.Fatalf("%v answers %d, want %d", o, got, want)
	}
	return got
}

// filled tells a state and its model to which these steps were done.
func filled(t *testing.T, steps ...step) (*state.State, *model) {
	t.Helper()
	s, m := state.New(), newModel()
	for _, o := range steps {
		both(t, s, m, o)
	}
	return s, m
}

// The tries, by the chapter's words; how a trie is made is layer 12's.

func (x modelAccount) storage() *trie.Trie {
	t := trie.New()
	for key, v := range x.cells {
		digest := keccak.Sum(key[:])
		t.Put(digest[:], modelScalar(v))
	}
	return t
}

func (x modelAccount) entry() api.Account {
	if !x.isThere() {
		return api.Account{}
	}
	return api.Account{Nonce: x.nonce.Uint64(), Balance: numberOf(x.balance), Storage: x.storage().Root(), Code: keccak.Sum([]byte(x.code))}
}

func (m *model) trie() *trie.Trie {
	t := trie.New()
	for _, a := range m.there() {
		digest := keccak.Sum(a[:])
		t.Put(digest[:], modelItem(m.at(a).entry()))
	}
	return t
}

// modelScalar tells a number's bytes as an item.
func modelScalar(v *big.Int) []byte {
	b := v.Bytes()
	if len(b) == 1 && b[0] < 0x80 {
		return b
	}
	return append([]byte{0x80 + byte(len(b))}, b...)
}

// modelItem tells an entry's bytes. What the list holds has 68 to 108 bytes: its length takes one byte always.
func modelItem(a api.Account) []byte {
	held := slices.Concat(modelScalar(new(big.Int).SetUint64(a.Nonce)), modelScalar(bigOf(a.Balance)), []byte{0xa0}, a.Storage[:], []byte{0xa0}, a.Code[:])
	return append([]byte{0xf8, byte(len(held))}, held...)
}

// modelParse reads an entry's bytes, byte by byte.
func modelParse(data []byte) (api.Account, api.Errno) {
	if len(data) > 16777216 {
		return api.Account{}, 2
	}
	if len(data) < 2 || data[0] != 0xf8 || int(data[1]) != len(data)-2 {
		return api.Account{}, 214
	}
	nonce, rest, ok := cutScalar(data[2:], 8)
	if !ok {
		return api.Account{}, 214
	}
	balance, rest, ok := cutScalar(rest, 32)
	if !ok || len(rest) != 66 || rest[0] != 0xa0 || rest[33] != 0xa0 {
		return api.Account{}, 214
	}
	return api.Account{Nonce: nonce.Uint64(), Balance: numberOf(balance), Storage: api.Hash(rest[1:33]), Code: api.Hash(rest[34:])}, 0
}

// cutScalar reads the number of at most so many bytes that a text begins with, in its one form, and tells what is behind it.
func cutScalar(b []byte, most int) (v *big.Int, rest []byte, ok bool) {
	if len(b) == 0 {
		return nil, nil, false
	}
	n := int(b[0]) - 0x80
	switch {
	case b[0] == 0 || n > most || len(b) < 1+n:
		return nil, nil, false
	case n < 0:
		return big.NewInt(int64(b[0])), b[1:], true
	case n > 0 && b[1] == 0 || n == 1 && b[1] < 0x80:
		return nil, nil, false
	}
	return new(big.Int).SetBytes(b[1 : 1+n]), b[1+n:], true
}

// modelNumber reads the bytes of a number of a storage.
func modelNumber(data []byte) (api.U256, api.Errno) {
	v, rest, ok := cutScalar(data, 32)
	if !ok || len(rest) > 0 || v.Sign() == 0 {
		return api.U256{}, 214
	}
	return numberOf(v), 0
}

// checkMap holds what can be seen of a state against its model, but for roots and proofs; the addresses and keys that are asked for may have something or not.
func checkMap(t *testing.T, s *state.State, m *model, addresses []api.Address, keys []api.Hash) {
	t.Helper()
	there := m.there()
	if got := slices.Collect(s.Each()); s.Len() != len(there) || !slices.Equal(got, there) {
		t.Fatalf("Len = %d, Each gives %x, want %x", s.Len(), got, there)
	}
	for _, a := range slices.Concat(there, addresses) {
		x := m.at(a)
		if s.Nonce(a) != x.nonce.Uint64() || s.Balance(a) != numberOf(x.balance) || string(s.Code(a)) != x.code {
			t.Fatalf("%x has the nonce %d, the balance %v, a code of %d bytes, want %v, %v, %d", a, s.Nonce(a), s.Balance(a), len(s.Code(a)), x.nonce, x.balance, len(x.code))
		}
		for key, v := range x.cells {
			if got := s.Load(a, key); got != numberOf(v) {
				t.Fatalf("Load(%x, %x) = %v, want %v", a, key, got, v)
			}
		}
		for _, key := range keys {
			if got, want := s.Load(a, key), numberOf(m.load(a, key)); got != want {
				t.Fatalf("Load(%x, %x) = %v, want %v", a, key, got, want)
			}
		}
	}
}

// checkState holds all that can be seen of a state against its model.
func checkState(t *testing.T, s *state.State, m *model, addresses []api.Address, keys []api.Hash) {
	t.Helper()
	checkMap(t, s, m, addresses, keys)
	whole := m.trie()
	root := whole.Root()
	if got := s.Root(); got != root {
		t.Fatalf("Root = %x, want %x", got, root)
	}
	for _, a := range slices.Concat(m.there(), addresses) {
		x := m.at(a)
		want, is := x.entry(), x.isThere()
		if got, ok := s.Account(a); got != want || ok != is {
			t.Fatalf("Account(%x) = %+v, %t, want %+v, %t", a, got, ok, want, is)
		}
		digest := keccak.Sum(a[:])
		nodes := s.Prove(a)
		if !sameTexts(nodes, whole.Nodes(digest[:])) {
			t.Fatalf("Prove(%x) = %x, want %x", a, nodes, whole.Nodes(digest[:]))
		}
		if got, ok, e := state.Show(root, a, nodes); got != want || ok != is || e != api.OK {
			t.Fatalf("Show(%x) = %+v, %t, %d, want %+v, %t", a, got, ok, e, want, is)
		}
		checkStorage(t, s, a, x, keys)
	}
}

// checkStorage holds the root and the proofs of an address's storage against its model.
func checkStorage(t *testing.T, s *state.State, a api.Address, x modelAccount, keys []api.Hash) {
	t.Helper()
	storage := x.storage()
	root := s.StorageRoot(a)
	if want := storage.Root(); root != want {
		t.Fatalf("StorageRoot(%x) = %x, want %x", a, root, want)
	}
	for _, key := range slices.AppendSeq(slices.Clone(keys), maps.Keys(x.cells)) {
		digest := keccak.Sum(key[:])
		nodes := s.ProveStorage(a, key)
		if !sameTexts(nodes, storage.Nodes(digest[:])) {
			t.Fatalf("ProveStorage(%x, %x) = %x, want %x", a, key, nodes, storage.Nodes(digest[:]))
		}
		if got, e := state.ShowStorage(root, key, nodes); got != s.Load(a, key) || e != api.OK {
			t.Fatalf("ShowStorage(%x, %x) = %v, %d, want %v", a, key, got, e, s.Load(a, key))
		}
	}
}

func sameTexts(a, b [][]byte) bool { return slices.EqualFunc(a, b, bytes.Equal) }

// someAddresses and someKeys are few, so that they are met again and again; the last one of each is never touched.
func someAddresses() []api.Address {
	return []api.Address{{}, one, two, three, {0: 1}, {18: 1}, {0: 0xee, 19: 0xee}}
}

func someKeys() []api.Hash { return []api.Hash{{}, cell, other, {0: 0xff, 31: 0xff}, {15: 0xee}} }

// anyOf tells one of a list but for its last one.
func anyOf[T any](row *chance.Row, list []T) T { return list[row.Below(len(list)-1)] }

// anyAmount tells a number, often one at which sums and differences come to an edge.
func anyAmount(row *chance.Row) api.U256 {
	switch row.Below(8) {
	case 0:
		return top
	case 1:
		return api.U256{3: 1 << 63}
	case 2:
		return row.Number()
	}
	return small(uint64(row.Below(4)))
}

// anyStep tells a step by chance; marks tells how many marks there are.
func anyStep(row *chance.Row, marks int) step {
	o := step{a: anyOf(row, someAddresses()), b: anyOf(row, someAddresses()), key: anyOf(row, someKeys()), v: anyAmount(row), nonce: uint64(row.Below(3)), number: row.Below(marks+2) - 1}
	kinds := []string{"Mint", "Mint", "Burn", "Transfer", "Transfer", "Bump", "SetNonce", "SetCode", "Store", "Store", "Store", "Store", "Destroy", "Snapshot", "Snapshot", "Revert"}
	o.kind = kinds[row.Below(len(kinds))]
	if row.Below(4) == 0 {
		o.nonce = lastNonce - uint64(row.Below(2))
	}
	if row.Below(3) > 0 {
		o.code = string(row.Text(row.Below(60)))
	}
	return o
}

// The helpers themselves: an error in them would hide one in the program.
func TestHelpers(t *testing.T) {
	row := chance.Row(2100)
	for range 500 {
		x := row.Number()
		if numberOf(bigOf(x)) != x {
			t.Fatalf("%v there and back", x)
		}
		a := api.Account{Nonce: row.Next() >> row.Below(64), Balance: x, Storage: api.Hash(row.Text(32)), Code: api.Hash(row.Text(32))}
		if got, e := modelParse(modelItem(a)); got != a || e != 0 {
			t.Fatalf("modelParse: %+v, %d, want %+v", got, e, a)
		}
	}
	if bigOf(top).BitLen() != 256 || bigOf(api.U256{1, 2}).String() != "36893488147419103233" {
		t.Error("bigOf")
	}
	for _, x := range []struct {
		v    int64
		want string
	}{{0, "80"}, {1, "01"}, {127, "7f"}, {128, "8180"}, {255, "81ff"}, {256, "820100"}} {
		b := modelScalar(big.NewInt(x.v))
		if hex.EncodeToString(b) != x.want {
			t.Errorf("modelScalar(%d) = %x", x.v, b)
		}
		if v, rest, ok := cutScalar(append(b, 5), 32); !ok || v.Int64() != x.v || len(rest) != 1 {
			t.Errorf("cutScalar(%x) = %v, %x, %t", b, v, rest, ok)
		}
	}
	for _, x := range []string{"", "00", "8100", "817f", "820001", "82ff", "b8", "c0", "a1" + strings.Repeat("ff", 33)} {
		if v, _, ok := cutScalar(unhex(x), 32); ok {
			t.Errorf("cutScalar(%s) = %v", x, v)
		}
	}
}
