package pool_test

import (
	"bytes"
	"fmt"
	"math/big"
	"slices"
	"sync"
	"testing"

	"waybill/address"
	"waybill/api"
	"waybill/chance"
	"waybill/fees"
	"waybill/keccak"
	"waybill/pool"
	"waybill/signing"
	"waybill/tx"
)

const (
	most   = 1<<64 - 1 // the greatest nonce
	wide   = 30000000  // a block's gas limit
	plenty = 1 << 60   // a balance
	kinds  = 5
	keys   = 5
)

var (
	noHash = api.Hash{}
	nobody = api.Address{}
	top    = api.U256{most, most, most, most} // 2^256 - 1
)

func small(v uint64) api.U256 { return api.U256{v} }

func bigOf(x api.U256) *big.Int {
	n := new(big.Int)
	for _, limb := range slices.Backward(x[:]) {
		n.Lsh(n, 64).Add(n, new(big.Int).SetUint64(limb))
	}
	return n
}

// numberOf tells a number that fits.
func numberOf(n *big.Int) api.U256 {
	if n.Sign() < 0 || n.BitLen() > 256 {
		panic("not below 2^256: " + n.String())
	}
	var x api.U256
	for i := range x {
		x[i] = new(big.Int).Rsh(n, uint(64*i)).Uint64()
	}
	return x
}

func times(a uint64, b *big.Int) *big.Int { return new(big.Int).Mul(new(big.Int).SetUint64(a), b) }

func sum(all ...*big.Int) *big.Int {
	s := new(big.Int)
	for _, n := range all {
		s.Add(s, n)
	}
	return s
}

// shelf keeps what was once made: to sign takes long.
var shelf struct {
	sync.Mutex
	raws    map[string][]byte
	senders map[string]api.Address
}

// signed tells the bytes of a transaction that a key has signed, in new memory.
func signed(key uint64, x api.Tx) []byte {
	name := fmt.Sprintf("%d %+v", key, x)
	shelf.Lock()
	raw, ok := shelf.raws[name]
	shelf.Unlock()
	if ok {
		return bytes.Clone(raw)
	}
	y, e := signing.Sign(x, small(key))
	raw, f := tx.Encode(y)
	if e != api.OK || f != api.OK {
		panic(fmt.Sprintf("not to be signed: %d, %d, %s", e, f, name))
	}
	who := of(key)
	shelf.Lock()
	defer shelf.Unlock()
	if shelf.raws == nil {
		shelf.raws, shelf.senders = map[string][]byte{}, map[string]api.Address{}
	}
	shelf.raws[name], shelf.senders[string(raw)] = raw, who
	return bytes.Clone(raw)
}

// first tells the addresses of the keys below 256.
var first = sync.OnceValue(func() (all [256]api.Address) {
	for key := range all {
		all[key], _ = address.OfKey(small(uint64(key)))
	}
	return all
})

// of tells the address of a key from 1 to 255.
func of(key uint64) api.Address { return first()[key] }

// senderOf tells who has signed: of what signed has made that is known, of others layer 16 tells it.
func senderOf(raw []byte, x api.Tx) (api.Address, api.Errno) {
	shelf.Lock()
	a, ok := shelf.senders[string(raw)]
	shelf.Unlock()
	if ok {
		return a, api.OK
	}
	return signing.Sender(x)
}

// plain tells a transaction of type 2.
func plain(nonce, tip, cap, gas uint64) api.Tx {
	return api.Tx{Type: 2, Chain: 1, Nonce: nonce, Tip: small(tip), Cap: small(cap), Gas: gas}
}

// typed tells one of any type, with gas enough for each; in the types 0 and 1 the cap is the tip too.
func typed(kind int, nonce uint64, tip, cap api.U256) api.Tx {
	x := api.Tx{Type: kind, Chain: 1, Nonce: nonce, Tip: tip, Cap: cap, Gas: 50000}
	switch kind {
	case 0, 1:
		x.Price, x.Tip, x.Cap = cap, api.U256{}, api.U256{}
	case 3:
		x.BlobHashes = []api.Hash{{1}}
	case 4:
		x.Auths = []api.Auth{{}}
	}
	return x
}

// raw tells the bytes of one of type 2, signed by a key.
func raw(key, nonce, tip, cap, gas uint64) []byte { return signed(key, plain(nonce, tip, cap, gas)) }

// The model follows the chapter word for word, with numbers of any size. What is in the bytes, who has signed them, and whether gas is enough, is told by the layers 15, 16 and 18, which have tests of their own.

// modelTx is a transaction that waits.
type modelTx struct {
	raw            string
	hash           api.Hash
	sender         api.Address
	nonce, gas     uint64
	cap, tip, cost *big.Int
}

type model struct {
	chain    uint64
	base     *big.Int
	limit    uint64
	room     int
	nonces   map[api.Address]uint64
	balances map[api.Address]*big.Int
	waiting  []modelTx // as they came in: by rising numbers
}

func (m *model) balance(a api.Address) *big.Int {
	if n, ok := m.balances[a]; ok {
		return n
	}
	return new(big.Int)
}

// find tells where one of a hash waits, or -1.
func (m *model) find(h api.Hash) int {
	return slices.IndexFunc(m.waiting, func(x modelTx) bool { return x.hash == h })
}

func modelCaps(x api.Tx) (cap, tip *big.Int) {
	if x.Type < 2 {
		return bigOf(x.Price), bigOf(x.Price)
	}
	return bigOf(x.Cap), bigOf(x.Tip)
}

func modelCost(x api.Tx) *big.Int {
	cap, _ := modelCaps(x)
	blobs := new(big.Int)
	if x.Type == 3 {
		blobs = times(131072*uint64(len(x.BlobHashes)), bigOf(x.BlobCap))
	}
	return sum(times(x.Gas, cap), bigOf(x.Value), blobs)
}

// add is P24.3.
func (m *model) add(raw []byte) (api.Hash, api.Errno) {
	x, e := tx.Decode(raw)
	if e != 0 {
		return noHash, e
	}
	hash := keccak.Sum(raw)
	if m.find(hash) >= 0 {
		return noHash, 241
	}
	if named := x.Type != 0 || bigOf(x.V).Cmp(big.NewInt(37)) >= 0; named && x.Chain != m.chain {
		return noHash, 248
	}
	sender, e := senderOf(raw, x)
	if e != 0 {
		return noHash, 240
	}
	cap, tip := modelCaps(x)
	switch {
	case fees.Enough(x) != 0:
		return noHash, 182
	case x.Gas > m.limit:
		return noHash, 246
	case x.Type >= 2 && tip.Cmp(cap) > 0:
		return noHash, 181
	case x.Nonce < m.nonces[sender] || x.Nonce == most:
		return noHash, 242
	}
	goes, e := m.goes(modelTx{string(raw), hash, sender, x.Nonce, x.Gas, cap, tip, modelCost(x)})
	if e != 0 {
		return noHash, e
	}
	if goes >= 0 {
		m.waiting = slices.Delete(m.waiting, goes, goes+1)
	}
	m.waiting = append(m.waiting, modelTx{string(raw), hash, sender, x.Nonce, x.Gas, cap, tip, modelCost(x)})
	return hash, 0
}

// goes is the steps 9 to 11: the place of the one that a new one displaces, or -1.
func (m *model) goes(x modelTx) (int, api.Errno) {
	place := slices.IndexFunc(m.waiting, func(y modelTx) bool { return y.sender == x.sender && y.nonce == x.nonce })
	if place >= 0 {
		old := m.waiting[place]
		if x.cap.Cmp(old.cap) <= 0 || times(10, x.cap).Cmp(times(11, old.cap)) < 0 || times(10, x.tip).Cmp(times(11, old.tip)) < 0 {
			return -1, 243
		}
	}
	all := x.cost
	for _, y := range m.waiting {
		if y.sender == x.sender && y.nonce != x.nonce {
			all = sum(all, y.cost)
		}
	}
	if all.Cmp(m.balance(x.sender)) > 0 {
		return -1, 245
	}
	if place >= 0 || len(m.waiting) < m.room {
		return place, 0
	}
	least := -1
	for i, y := range m.waiting {
		isLast := !slices.ContainsFunc(m.waiting, func(z modelTx) bool { return z.sender == y.sender && z.nonce > y.nonce })
		if isLast && (least < 0 || y.cap.Cmp(m.waiting[least].cap) <= 0) { // of several the later one
			least = i
		}
	}
	if x.cap.Cmp(m.waiting[least].cap) <= 0 {
		return -1, 244
	}
	return least, 0
}

// settle takes out what has a lower nonce.
func (m *model) settle(a api.Address, nonce uint64) {
	m.nonces[a] = nonce
	m.waiting = slices.DeleteFunc(m.waiting, func(x modelTx) bool { return x.sender == a && x.nonce < nonce })
}

func (m *model) mined(hashes []api.Hash) int {
	n := 0
	for _, h := range hashes {
		if i := m.find(h); i >= 0 {
			n++
			x := m.waiting[i]
			m.waiting = slices.Delete(m.waiting, i, i+1)
			m.settle(x.sender, max(m.nonces[x.sender], x.nonce+1))
		}
	}
	return n
}

func (m *model) next(a api.Address) uint64 {
	nonce := m.nonces[a]
	for slices.ContainsFunc(m.waiting, func(x modelTx) bool { return x.sender == a && x.nonce == nonce }) {
		nonce++
	}
	return nonce
}

func (m *model) tell(x modelTx) api.Waiting {
	tip := new(big.Int).Sub(x.cap, m.base)
	if tip.Sign() < 0 {
		tip.SetInt64(0)
	} else if tip.Cmp(x.tip) > 0 {
		tip = x.tip
	}
	return api.Waiting{Hash: x.hash, Sender: x.sender, Nonce: x.nonce, Tip: numberOf(tip)}
}

func (m *model) told() []api.Waiting {
	var all []api.Waiting
	for _, x := range m.waiting {
		all = append(all, m.tell(x))
	}
	slices.SortFunc(all, func(x, y api.Waiting) int {
		if x.Sender == y.Sender {
			return new(big.Int).SetUint64(x.Nonce).Cmp(new(big.Int).SetUint64(y.Nonce))
		}
		return bytes.Compare(x.Sender[:], y.Sender[:])
	})
	return all
}

// ready is P24.7: each time all candidates are looked at anew.
func (m *model) ready(gas uint64) []api.Waiting {
	var all []api.Waiting
	nonces, gone, spent := map[api.Address]uint64{}, map[api.Address]bool{}, map[api.Address]*big.Int{}
	for a, n := range m.nonces {
		nonces[a] = n
	}
	for {
		var best modelTx
		for _, x := range m.waiting {
			if gone[x.sender] || x.nonce != nonces[x.sender] {
				continue
			}
			if best.cap == nil || bigOf(m.tell(x).Tip).Cmp(bigOf(m.tell(best).Tip)) > 0 {
				best = x
			}
		}
		if best.cap == nil {
			return all
		}
		a := best.sender
		if spent[a] == nil {
			spent[a] = new(big.Int)
		}
		if best.cap.Cmp(m.base) < 0 || best.gas > gas || sum(spent[a], best.cost).Cmp(m.balance(a)) > 0 {
			gone[a] = true
			continue
		}
		all = append(all, m.tell(best))
		gas -= best.gas
		spent[a] = sum(spent[a], best.cost)
		nonces[a] = best.nonce + 1
	}
}

// step is one call that may change a pool.
type step struct {
	kind   string
	raw    []byte
	a      api.Address
	nonce  uint64
	v      api.U256
	hashes []api.Hash
}

// answered tells what a call answers: a hash, if there is one, and the error's number or another one.
func (o step) answered(p *pool.Pool) (api.Hash, int) {
	switch o.kind {
	case "Add":
		h, e := p.Add(o.raw)
		return h, int(e)
	case "SetAccount":
		return noHash, int(p.SetAccount(o.a, o.nonce, o.v))
	case "SetBase":
		return noHash, int(p.SetBase(o.v))
	case "Drop":
		return noHash, int(p.Drop(o.hashes[0]))
	case "Mined":
		return noHash, p.Mined(o.hashes)
	}
	panic("no call: " + o.kind)
}

// modelled does the same to the model, and tells what is to be answered.
func (o step) modelled(m *model) (api.Hash, int) {
	switch o.kind {
	case "Add":
		h, e := m.add(o.raw)
		return h, int(e)
	case "SetAccount":
		m.balances[o.a] = bigOf(o.v)
		m.settle(o.a, o.nonce)
	case "SetBase":
		m.base = bigOf(o.v)
	case "Drop":
		i := m.find(o.hashes[0])
		if i < 0 {
			return noHash, 247
		}
		m.waiting = slices.Delete(m.waiting, i, i+1)
	case "Mined":
		return noHash, m.mined(o.hashes)
	}
	return noHash, 0
}

// twin is a pool beside its model.
type twin struct {
	*pool.Pool
	m *model
}

// made tells a pool in which nothing waits, with its model; the keys 1 to 5 have plenty.
func made(t *testing.T, base, limit uint64, room int) twin {
	t.Helper()
	w := bare(t, 1, small(base), limit, room)
	for key := range uint64(keys) {
		w.do(t, step{kind: "SetAccount", a: of(key + 1), v: small(plenty)})
	}
	return w
}

func bare(t *testing.T, chain uint64, base api.U256, limit uint64, room int) twin {
	t.Helper()
	p, e := pool.New(chain, base, limit, room)
	if p == nil || e != api.OK {
		t.Fatalf("New(%d, %v, %d, %d) = %v, %d", chain, base, limit, room, p, e)
	}
	return twin{p, &model{chain: chain, base: bigOf(base), limit: limit, room: room, nonces: map[api.Address]uint64{}, balances: map[api.Address]*big.Int{}}}
}

// do does a step to the pool and to its model, holds the answers against each other, and tells the number.
func (w twin) do(t *testing.T, o step) int {
	t.Helper()
	h, got := o.answered(w.Pool)
	wantH, want := o.modelled(w.m)
	if got != want || h != wantH {
		t.Fatalf("%s(%x, %x, %d, %v, %x) answers %x, %d, want %x, %d", o.kind, o.raw, o.a, o.nonce, o.v, o.hashes, h, got, wantH, want)
	}
	return got
}

// adds wants just this error of Add.
func (w twin) adds(t *testing.T, what string, raw []byte, want api.Errno) {
	t.Helper()
	if got := w.do(t, step{kind: "Add", raw: raw}); got != int(want) {
		t.Errorf("%s: Add answers %d, want %d", what, got, want)
	}
	w.check(t)
}

// has wants just these to wait, whatever their order.
func (w twin) has(t *testing.T, what string, raws ...[]byte) {
	t.Helper()
	for _, raw := range raws {
		if !w.Has(keccak.Sum(raw)) {
			t.Errorf("%s: %x doesn't wait", what, raw)
		}
	}
	if w.Len() != len(raws) {
		t.Errorf("%s: %d wait, want %d", what, w.Len(), len(raws))
	}
}

// check holds all that can be seen of a pool against its model.
func (w twin) check(t *testing.T) {
	t.Helper()
	if w.Len() != len(w.m.waiting) {
		t.Fatalf("Len = %d, want %d", w.Len(), len(w.m.waiting))
	}
	if got, want := w.Waiting(), w.m.told(); !slices.Equal(got, want) {
		t.Fatalf("Waiting = %+v, want %+v", got, want)
	}
	for _, x := range w.m.waiting {
		if b, e := w.Raw(x.hash); string(b) != x.raw || e != api.OK || !w.Has(x.hash) {
			t.Fatalf("Raw(%x) = %x, %d, want %x", x.hash, b, e, x.raw)
		}
	}
	for key := range uint64(keys + 1) {
		a := of(key + 1)
		if got, want := w.Next(a), w.m.next(a); got != want {
			t.Fatalf("Next(%x) = %d, want %d", a, got, want)
		}
	}
	for _, gas := range []uint64{0, 21000, 63000, 200000, wide, most} {
		w.readies(t, gas)
	}
}

// readies holds Ready against the model, and against P24.10.
func (w twin) readies(t *testing.T, gas uint64) []api.Waiting {
	t.Helper()
	got, want := w.Ready(gas), w.m.ready(gas)
	if !slices.Equal(got, want) {
		t.Fatalf("Ready(%d) = %+v, want %+v", gas, got, want)
	}
	all, nonces, costs := new(big.Int), map[api.Address]uint64{}, map[api.Address]*big.Int{}
	for _, x := range got {
		i := w.m.find(x.Hash)
		y := w.m.waiting[i]
		if _, ok := nonces[x.Sender]; !ok {
			nonces[x.Sender], costs[x.Sender] = w.m.nonces[x.Sender], new(big.Int)
		}
		all, costs[x.Sender] = sum(all, times(y.gas, big.NewInt(1))), sum(costs[x.Sender], y.cost)
		if x.Nonce != nonces[x.Sender] || y.cap.Cmp(w.m.base) < 0 || costs[x.Sender].Cmp(w.m.balance(x.Sender)) > 0 || all.Cmp(new(big.Int).SetUint64(gas)) > 0 {
			t.Fatalf("Ready(%d) = %+v: %+v may not be put into a block", gas, got, x)
		}
		nonces[x.Sender]++
	}
	return got
}

// The helpers themselves: an error in them would hide one in the program.
func TestHelpers(t *testing.T) {
	row := chance.Row(2400)
	for range 300 {
		if x := row.Number(); numberOf(bigOf(x)) != x {
			t.Fatalf("%v there and back", x)
		}
	}
	if bigOf(api.U256{1, 2}).String() != "36893488147419103233" || sum(big.NewInt(2), times(3, big.NewInt(5))).Int64() != 17 {
		t.Error("bigOf, sum, times")
	}
	if a, e := address.OfKey(small(255)); a != of(255) || e != api.OK || of(0) != nobody {
		t.Errorf("of(255) = %x", of(255))
	}
	for kind := range kinds {
		x := typed(kind, 3, small(1), small(2))
		b := signed(2, x)
		y, e := tx.Decode(b)
		a, f := signing.Sender(y)
		if e != api.OK || f != api.OK || a != of(2) || fees.Enough(y) != api.OK || !bytes.Equal(b, signed(2, x)) {
			t.Errorf("typed, signed of type %d: %d, %d, %x", kind, e, f, a)
		}
		if known, e := senderOf(b, y); known != a || e != api.OK {
			t.Errorf("senderOf: %x, %d", known, e)
		}
		cap, tip := modelCaps(y)
		if want := 2 - int64(min(kind/2, 1)); cap.Int64() != 2 || tip.Int64() != want || modelCost(y).Int64() != 100000 {
			t.Errorf("modelCaps, modelCost of type %d: %v, %v, %v", kind, cap, tip, modelCost(y))
		}
	}
	// Example 4 of chapter 18.
	if cost := modelCost(api.Tx{Type: 3, Gas: 2, Cap: small(3), Value: small(5), BlobHashes: make([]api.Hash, 2), BlobCap: small(1)}); cost.Int64() != 262155 {
		t.Errorf("modelCost = %v", cost)
	}
}
