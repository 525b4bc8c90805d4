package pool_test

import (
	"bytes"
	"fmt"
	"math/big"
	"slices"
	"testing"

	"waybill/api"
	"waybill/chance"
	"waybill/keccak"
	"waybill/signing"
	"waybill/tx"
)

// chapter tells the pool of the chapter's examples.
func chapter(t *testing.T) twin {
	w := bare(t, 1, small(10), wide, 2)
	for key := range uint64(2) {
		w.do(t, step{kind: "SetAccount", a: of(key + 1), v: small(1e18)})
	}
	return w
}

// P24.1 to P24.8: the chapter's examples.
func TestExamples(t *testing.T) {
	w := chapter(t)
	a, b := of(1), of(2)
	first := raw(1, 0, 1, 20, 21000)
	w.adds(t, "example 1", first, api.OK)
	if w.Len() != 1 || w.Next(a) != 1 || w.Next(b) != 0 {
		t.Errorf("example 1: %d wait, Next = %d, %d", w.Len(), w.Next(a), w.Next(b))
	}
	w.adds(t, "the same bytes", first, api.ErrPoolKnown)
	other := plain(0, 1, 20, 21000)
	other.Chain = 2
	w.adds(t, "the chain 2", signed(1, other), api.ErrPoolChain)
	w.adds(t, "little gas", raw(1, 0, 1, 20, 20999), api.ErrFeeGas)
	w.adds(t, "210 is below 220", raw(1, 0, 1, 21, 21000), api.ErrPoolPrice)
	w.adds(t, "10 is below 11", raw(1, 0, 1, 22, 21000), api.ErrPoolPrice)
	second := raw(1, 0, 2, 22, 21000)
	w.adds(t, "in the first one's place", second, api.OK)
	w.has(t, "example 2", second)
	third := raw(2, 5, 3, 30, 21000)
	w.adds(t, "example 3", third, api.OK)
	if l := w.Ready(wide); w.Len() != 2 || w.Next(b) != 0 || len(l) != 1 || l[0] != (api.Waiting{Hash: keccak.Sum(second), Sender: a, Tip: small(2)}) {
		t.Errorf("example 3: %d wait, Next = %d, Ready = %+v", w.Len(), w.Next(b), l)
	}
	w.adds(t, "as low as the lowest", raw(1, 1, 1, 22, 21000), api.ErrPoolFull)
	fourth := raw(1, 1, 1, 23, 21000)
	w.adds(t, "higher", fourth, api.OK)
	w.has(t, "a's nonce 0 goes", third, fourth)
	if l := w.Ready(wide); len(l) != 0 {
		t.Errorf("example 3: Ready = %+v", l)
	}
	w.do(t, step{kind: "SetAccount", a: a, nonce: 7})
	w.has(t, "example 4", third)
	if n := w.do(t, step{kind: "Mined", hashes: []api.Hash{keccak.Sum(third)}}); n != 1 || w.Next(b) != 6 {
		t.Errorf("example 4: Mined = %d, Next = %d", n, w.Next(b))
	}
	if got := w.do(t, step{kind: "Drop", hashes: []api.Hash{keccak.Sum(third)}}); got != 247 {
		t.Errorf("example 5: Drop = %d", got)
	}
}

// P24.3, step 1: what tx.Decode refuses is refused as it refuses it.
func TestNoTransaction(t *testing.T) {
	row := chance.Row(2410)
	w := made(t, 10, wide, 5)
	w.adds(t, "one that is", raw(1, 0, 1, 20, 21000), api.OK)
	seen := map[int]int{}
	texts := [][]byte{nil, {}, {0}, {5, 0xc0}, {0x80}, {0xbf}, {1}, {2, 0x80}, {0xc0}, {2, 0xc0}, bytes.Repeat([]byte{0x80}, 9), append([]byte{0xc9}, bytes.Repeat([]byte{0x80}, 9)...), make([]byte, api.MaxInput+1)}
	for kind := range kinds {
		good := signed(1, typed(kind, 0, small(1), small(20)))
		texts = append(texts, append(bytes.Clone(good), 0), good[:len(good)-1])
		for range 40 {
			b := bytes.Clone(good)
			b[row.Below(12)] ^= byte(1 << row.Below(8))
			if _, e := tx.Decode(b); e != api.OK {
				texts = append(texts, b)
			}
		}
	}
	for _, b := range texts {
		_, want := tx.Decode(b)
		if got := w.do(t, step{kind: "Add", raw: b}); got != int(want) || want == api.OK {
			t.Errorf("Add(%x) = %d, want %d", b[:min(len(b), 200)], got, want)
		}
		seen[int(want)]++
	}
	w.check(t)
	for _, e := range []api.Errno{api.ErrLong, api.ErrRlpEnd, api.ErrRlpKind, api.ErrRlpRest, api.ErrTxType, api.ErrTxForm, api.ErrTxFields, api.ErrTxSig} {
		if seen[int(e)] == 0 {
			t.Errorf("no text with the error %d", e)
		}
	}
}

// P24.3, step 2: only what waits is known.
func TestKnown(t *testing.T) {
	w := made(t, 10, wide, 2)
	one, dear, other := raw(1, 0, 1, 20, 21000), raw(1, 0, 9, 40, 21000), raw(2, 0, 1, 15, 21000)
	w.adds(t, "new", one, api.OK)
	w.adds(t, "known", one, api.ErrPoolKnown)
	w.adds(t, "in its place", dear, api.OK)
	w.adds(t, "not known any more", one, api.ErrPoolPrice)
	w.adds(t, "new", other, api.OK)
	w.adds(t, "known, though it is full", other, api.ErrPoolKnown)
	w.do(t, step{kind: "SetAccount", a: of(2)})
	w.adds(t, "known, though it can't be paid", other, api.ErrPoolKnown)
	w.do(t, step{kind: "Drop", hashes: []api.Hash{keccak.Sum(other)}})
	w.adds(t, "not known any more", other, api.ErrPoolFunds)
}

// P24.3, step 3: each type, for each of several chains, in pools of these.
func TestChains(t *testing.T) {
	t.Parallel()
	chains := []uint64{0, 1, 2, 1 << 32, api.MaxChain - 1, api.MaxChain}
	for _, mine := range chains {
		w := bare(t, mine, small(10), wide, 4000)
		w.do(t, step{kind: "SetAccount", a: of(1), v: small(plenty)})
		for kind := range kinds {
			for i, chain := range chains {
				x := typed(kind, uint64(10*kind+i), small(1), small(20))
				x.Chain = chain
				want := api.OK
				if chain != mine && (kind > 0 || chain > 0) {
					want = api.ErrPoolChain
				}
				w.adds(t, "a chain", signed(1, x), want)
			}
		}
	}
}

// P24.3, step 3: a legacy one that names no chain, with either V.
func TestLegacy(t *testing.T) {
	w := made(t, 10, wide, 50)
	seen := map[uint64]int{}
	for nonce := range uint64(10) {
		for _, chain := range []uint64{0, 1} {
			b := signed(1+chain, api.Tx{Chain: chain, Nonce: nonce, Price: small(20), Gas: 21000})
			w.adds(t, "a legacy one", b, api.OK)
			x, _ := tx.Decode(b)
			seen[x.V[0]]++
		}
	}
	if len(seen) != 4 || seen[27]+seen[28] != 10 || seen[37]+seen[38] != 10 {
		t.Errorf("not all V: %v", seen)
	}
}

// order is that of the group.
func order() *big.Int {
	v, _ := new(big.Int).SetString("fffffffffffffffffffffffffffffffebaaedce6af48a03bbfd25e8cd0364141", 16)
	return v
}

// marred tells the bytes of a transaction with other numbers for a signature.
func marred(x api.Tx, v, r, s api.U256) []byte {
	x.V, x.R, x.S = v, r, s
	b, e := tx.Encode(x)
	if e != api.OK {
		panic("not well-formed")
	}
	return b
}

// P24.3, step 4: whatever signing.Sender has against a signature.
func TestNoSender(t *testing.T) {
	w := made(t, 10, wide, 50)
	seen := map[api.Errno]int{}
	for kind := range kinds {
		x := typed(kind, 0, small(1), small(20))
		even, odd := small(0), small(1)
		if kind == 0 {
			even, odd = small(37), small(38)
		}
		good, _ := tx.Decode(signed(1, x))
		other := even
		if good.V == even {
			other = odd
		}
		high := numberOf(new(big.Int).Sub(order(), bigOf(good.S)))
		for _, b := range [][]byte{
			marred(x, even, small(0), small(0)), marred(x, even, small(0), small(1)), marred(x, odd, top, small(1)), marred(x, odd, numberOf(order()), small(1)),
			marred(x, odd, small(1), small(0)), marred(x, odd, small(1), top), marred(x, other, good.R, high), marred(x, even, small(5), small(1)),
		} {
			y, _ := tx.Decode(b)
			_, e := signing.Sender(y)
			seen[e]++
			w.adds(t, "no sender", b, api.ErrPoolSender)
		}
		w.adds(t, "the sender", signed(1, x), api.OK)
		w.do(t, step{kind: "Drop", hashes: []api.Hash{keccak.Sum(signed(1, x))}})
	}
	if seen[api.OK] > 0 || seen[api.ErrUnsigned] != 4 || seen[api.ErrSigR] < 5 || seen[api.ErrSigS] < 5 || seen[api.ErrSigHigh] != 5 || seen[api.ErrSigX] != 5 {
		t.Errorf("not all errors of a sender: %v", seen)
	}
}

// P24.3, steps 5 and 6: just enough gas and one less, of all types; just the block's limit and one more.
func TestGas(t *testing.T) {
	w := made(t, 10, 53010, 50)
	for i, x := range []struct {
		tx   api.Tx
		need uint64
	}{
		{api.Tx{Type: 0, Price: small(20)}, 21000}, {api.Tx{Type: 0, Price: small(20), Create: true}, 53000}, {api.Tx{Type: 2, Cap: small(20), Data: []byte{0, 1}}, 21050},
		{api.Tx{Type: 1, Price: small(20), Access: []api.AccessEntry{{Keys: make([]api.Hash, 2)}}}, 27200}, {api.Tx{Type: 3, Cap: small(20), BlobHashes: []api.Hash{{1}}}, 21000}, {api.Tx{Type: 4, Cap: small(20), Auths: make([]api.Auth, 1)}, 46000},
	} {
		x.tx.Chain = 1
		for j, c := range []struct {
			gas  uint64
			want api.Errno
		}{{0, api.ErrFeeGas}, {x.need - 1, api.ErrFeeGas}, {x.need, api.OK}, {x.need + 1, api.OK}, {53010, api.OK}, {53011, api.ErrPoolLimit}, {1 << 40, api.ErrPoolLimit}, {most, api.ErrPoolLimit}} {
			y := x.tx
			y.Nonce, y.Gas = uint64(10*i+j), c.gas
			w.adds(t, "so much gas", signed(2, y), c.want)
		}
	}
	for _, limit := range []uint64{0, 1, 20999, 21000} {
		v := made(t, 10, limit, 5)
		want := api.ErrPoolLimit
		if limit == 21000 {
			want = api.OK
		}
		v.adds(t, "a low limit", raw(1, 0, 1, 20, 21000), want)
		v.adds(t, "less gas than it needs, more than the limit", raw(1, 1, 1, 20, 20999), api.ErrFeeGas)
	}
}

// P24.3, step 7: the tip may be the cap, not more; the types 0 and 1 have none.
func TestTipAboveCap(t *testing.T) {
	w := made(t, 10, wide, 100)
	great := api.U256{0, 0, 1}
	w.do(t, step{kind: "SetAccount", a: of(1), v: top})
	for kind := range kinds {
		for i, c := range []struct {
			tip, cap api.U256
			above    bool
		}{{small(20), small(20), false}, {small(0), small(0), false}, {small(1), small(0), true}, {small(21), small(20), true}, {great, small(20), true}, {small(1), great, false}, {top, small(1), true}, {top, great, true}} {
			want := api.OK
			if c.above && kind >= 2 {
				want = api.ErrFeeTip
			}
			w.adds(t, "a tip", signed(1, typed(kind, uint64(10*kind+i), c.tip, c.cap)), want)
		}
	}
}

// P24.3, step 8: nonces below the next one, and the greatest of all.
func TestNonces(t *testing.T) {
	for _, next := range []uint64{0, 1, 2, 256, 1 << 63, most - 1, most} {
		w := made(t, 10, wide, 100)
		w.do(t, step{kind: "SetAccount", a: of(1), nonce: next, v: small(plenty)})
		for _, nonce := range []uint64{0, 1, 2, 3, 255, 256, 257, 1<<63 - 1, 1 << 63, 1<<63 + 1, most - 2, most - 1, most} {
			want := api.OK
			if nonce < next || nonce == most {
				want = api.ErrPoolNonce
			}
			w.adds(t, "a nonce", raw(1, nonce, 1, 20, 21000), want)
		}
	}
}

// fault is one that a transaction has, or the pool that it comes to.
type fault struct {
	e   api.Errno
	put func(c *clash)
}

// clash is a transaction with a pool that it comes to.
type clash struct {
	x                    api.Tx
	high, waits, full    bool
	limit, next, balance uint64
}

// faults tells all of the steps 3 to 11, in their order; Price and Full exclude each other, Nonce and Price too.
func faults() []fault {
	return []fault{
		{api.ErrPoolChain, func(c *clash) { c.x.Chain = 2 }},
		{api.ErrPoolSender, func(c *clash) { c.high = true }},
		{api.ErrFeeGas, func(c *clash) { c.x.Gas-- }},
		{api.ErrPoolLimit, func(c *clash) { c.limit = 20998 }},
		{api.ErrFeeTip, func(c *clash) { c.x.Tip = small(21) }},
		{api.ErrPoolNonce, func(c *clash) { c.next = 6 }},
		{api.ErrPoolPrice, func(c *clash) { c.waits = true }},
		{api.ErrPoolFunds, func(c *clash) { c.balance = 21000*20 - 20001 }},
		{api.ErrPoolFull, func(c *clash) { c.full = true }},
	}
}

// P24.3, P0.1, P0.2: each set of faults; the one that is looked for first is told, and nothing changes.
func TestFirstFault(t *testing.T) {
	t.Parallel()
	all := faults()
	tried := 0
	for set := range 1 << len(all) {
		c := clash{x: plain(5, 1, 20, 21000), limit: wide, balance: plenty}
		want := api.OK
		for i, one := range slices.Backward(all) {
			if set>>i&1 == 1 {
				one.put(&c)
				want = one.e
			}
		}
		if c.waits && (c.full || c.next > 5 || c.limit < 21000) {
			continue
		}
		tried++
		w := bare(t, 1, small(10), c.limit, 1)
		if c.waits {
			w.do(t, step{kind: "SetAccount", a: of(1), nonce: c.next, v: small(plenty)})
			w.adds(t, "one waits", raw(1, 5, 1, 19, 21000), api.OK)
		}
		if c.full && c.limit >= 21000 {
			w.do(t, step{kind: "SetAccount", a: of(2), v: small(plenty)})
			w.adds(t, "one waits", raw(2, 0, 1, 20, 21000), api.OK)
		}
		w.do(t, step{kind: "SetAccount", a: of(1), nonce: c.next, v: small(c.balance)})
		b := signed(1, c.x)
		if c.high {
			y, _ := tx.Decode(b)
			b = marred(c.x, small(0), y.R, numberOf(new(big.Int).Sub(order(), bigOf(y.S))))
		}
		w.adds(t, "several faults", b, want)
	}
	if tried < 256 {
		t.Errorf("only %d sets of faults", tried)
	}
}

// ceil tells the least number that is at least 11 / 10 of another one.
func ceil(v *big.Int) *big.Int {
	q := times(11, v)
	return q.Add(q, big.NewInt(9)).Div(q, big.NewInt(10))
}

// near tells a number and its neighbours, those that are none left out.
func near(v *big.Int) []api.U256 {
	var list []api.U256
	for d := int64(-1); d <= 1; d++ {
		if w := sum(v, big.NewInt(d)); w.Sign() >= 0 && w.BitLen() <= 256 {
			list = append(list, numberOf(w))
		}
	}
	return list
}

// P24.3, step 9: caps around a tenth more than those that wait; the sender can pay whatever is no more than that.
func TestCapOfTheNext(t *testing.T) {
	t.Parallel()
	for _, old := range []api.U256{{}, {1}, {2}, {8}, {9}, {10}, {11}, {20}, {99}, {100}, {101}, {most}, {0, 1}, {most, most}, {0, 0, 0, 1 << 48}} {
		v := bigOf(old)
		var caps []api.U256
		for _, around := range []*big.Int{v, ceil(v), times(2, v)} {
			caps = append(caps, near(around)...)
		}
		for _, cap := range append(caps, api.U256{3: 1 << 60}, api.U256{3: 1 << 62}, api.U256{3: 1 << 63}, top) { // ten times the last ones have more than 256 bits
			w := bare(t, 1, small(10), wide, 1)
			w.do(t, step{kind: "SetAccount", a: of(1), v: top})
			w.adds(t, "the first", signed(1, api.Tx{Type: 2, Chain: 1, Cap: old, Gas: 21000}), api.OK)
			b := signed(1, api.Tx{Type: 2, Chain: 1, Cap: cap, Gas: 21001})
			want := api.OK
			if c := bigOf(cap); c.Cmp(v) <= 0 || c.Cmp(ceil(v)) < 0 {
				want = api.ErrPoolPrice
			} else if times(21001, c).BitLen() > 256 {
				want = api.ErrPoolFunds
			}
			w.adds(t, "the second", b, want)
			if want == api.OK {
				w.has(t, "the second", b)
			}
		}
	}
}

// P24.3, step 9: tips around a tenth more than those that wait; a tip of 0 may stay 0.
func TestTipOfTheNext(t *testing.T) {
	t.Parallel()
	for _, old := range []api.U256{{}, {1}, {9}, {10}, {11}, {20}, {99}, {100}, {most}, {0, 1}, {0, 0, 1}} {
		v := bigOf(old)
		for _, tip := range append(near(v), append(near(ceil(v)), api.U256{0, 0, 0, 1})...) {
			w := bare(t, 1, small(10), wide, 1)
			w.do(t, step{kind: "SetAccount", a: of(1), v: top})
			w.adds(t, "the first", signed(1, api.Tx{Type: 2, Chain: 1, Tip: old, Cap: api.U256{0, 0, 0, 1}, Gas: 21000}), api.OK)
			want := api.OK
			if bigOf(tip).Cmp(ceil(v)) < 0 {
				want = api.ErrPoolPrice
			}
			w.adds(t, "the second", signed(1, api.Tx{Type: 2, Chain: 1, Tip: tip, Cap: api.U256{0, 0, 0, 2}, Gas: 21000}), want)
		}
		w := bare(t, 1, small(10), wide, 1)
		w.do(t, step{kind: "SetAccount", a: of(1), v: top})
		w.adds(t, "the first", signed(1, api.Tx{Type: 2, Chain: 1, Tip: old, Cap: api.U256{0, 0, 0, 1}, Gas: 21000}), api.OK)
		w.adds(t, "ten times its tip have more than 256 bits", signed(1, api.Tx{Type: 2, Chain: 1, Tip: api.U256{3: 1 << 63}, Cap: top, Gas: 21000}), api.ErrPoolFunds)
	}
}

// P24.3, step 9: of the types 0 and 1 the price is both; each type may take each other one's place.
func TestTypesInPlace(t *testing.T) {
	t.Parallel()
	for old := range kinds {
		for kind := range kinds {
			for _, tip := range []uint64{1, 21, 22} {
				for _, cap := range []uint64{21, 22, 23} {
					w := made(t, 10, wide, 2)
					w.adds(t, "the first", signed(1, typed(old, 3, small(1), small(20))), api.OK)
					x := typed(kind, 3, small(min(tip, cap)), small(cap))
					x.Gas++
					want := api.OK
					if cap < 22 || old < 2 && kind >= 2 && tip < 22 || old >= 2 && kind >= 2 && tip < 2 {
						want = api.ErrPoolPrice
					}
					w.adds(t, "the second", signed(1, x), want)
				}
			}
		}
	}
}

// P24.3, step 9: only the one of this sender and this nonce counts, and only that one goes.
func TestOthersStay(t *testing.T) {
	w := made(t, 10, wide, 6)
	others := [][]byte{raw(1, 0, 50, 99, 21000), raw(1, 2, 50, 99, 21000), raw(2, 1, 50, 99, 21000)}
	for _, b := range others {
		w.adds(t, "another", b, api.OK)
	}
	w.adds(t, "the first", raw(1, 1, 1, 20, 21000), api.OK)
	w.adds(t, "too low", raw(1, 1, 1, 21, 21000), api.ErrPoolPrice)
	w.has(t, "the first", append(others, raw(1, 1, 1, 20, 21000))...)
	w.adds(t, "in its place", raw(1, 1, 2, 22, 21000), api.OK)
	w.has(t, "the second", append(others, raw(1, 1, 2, 22, 21000))...)
	w.adds(t, "in its place again", raw(1, 1, 3, 25, 21000), api.OK)
	w.has(t, "the third", append(others, raw(1, 1, 3, 25, 21000))...)
}

// P24.3, step 10: just enough and one less, with all that a transaction can cost.
func TestFunds(t *testing.T) {
	blobs := typed(3, 0, small(1), small(20))
	blobs.BlobCap, blobs.BlobHashes, blobs.Value = small(3), []api.Hash{{1}, {1, 2}}, small(12345)
	sent := plain(0, 1, 20, 21000)
	sent.Value = api.U256{5, 6, 7, 8}
	for _, x := range []api.Tx{plain(0, 1, 20, 21000), plain(0, 0, 0, 21000), blobs, sent, typed(0, 0, small(1), small(20)), typed(1, 0, small(1), api.U256{1, 1, 1}), typed(4, 0, small(1), small(20))} {
		cost := modelCost(x)
		for d := int64(-1); d <= 1; d++ {
			balance := sum(cost, big.NewInt(d))
			if balance.Sign() < 0 {
				continue
			}
			want := api.OK
			if d < 0 {
				want = api.ErrPoolFunds
			}
			w := bare(t, 1, small(10), wide, 5)
			w.do(t, step{kind: "SetAccount", a: of(1), v: numberOf(balance)})
			w.adds(t, "its cost", signed(1, x), want)
		}
	}
}

// P24.3, step 10: a number of 2^256 or more is more than any balance: one's own, by each of its parts, and that of several together.
func TestWideFunds(t *testing.T) {
	half := api.U256{3: 1 << 63}
	for _, x := range []api.Tx{
		{Type: 2, Gas: 32768, Cap: api.U256{3: 1 << 49}}, {Type: 2, Gas: 21000, Cap: top}, {Type: 2, Gas: 21000, Cap: small(1), Value: top}, {Type: 0, Gas: 21000, Price: top}, {Type: 1, Gas: 32768, Price: api.U256{3: 1 << 49}},
		{Type: 3, Gas: 21000, BlobHashes: []api.Hash{{1}}, BlobCap: api.U256{3: 1 << 47}}, {Type: 3, Gas: 21000, BlobHashes: []api.Hash{{1}}, BlobCap: api.U256{3: 1 << 46}, Value: half}, {Type: 3, Gas: 32768, BlobHashes: []api.Hash{{1}}, BlobCap: api.U256{3: 1 << 46}, Cap: api.U256{3: 1 << 48}},
	} {
		x.Chain = 1
		w := bare(t, 1, small(10), wide, 5)
		w.do(t, step{kind: "SetAccount", a: of(1), v: top})
		if modelCost(x).BitLen() != 257 && modelCost(x).BitLen() < 260 {
			t.Errorf("%v is no cost for this test", modelCost(x))
		}
		w.adds(t, "2^256 or more", signed(1, x), api.ErrPoolFunds)
	}
	free := func(nonce uint64, value api.U256) []byte {
		return signed(1, api.Tx{Type: 2, Chain: 1, Nonce: nonce, Gas: 21000, Value: value})
	}
	w := bare(t, 1, small(10), wide, 9)
	w.do(t, step{kind: "SetAccount", a: of(1), v: top})
	w.adds(t, "a half", free(0, half), api.OK)
	w.adds(t, "another half", free(1, half), api.ErrPoolFunds)
	w.adds(t, "a little less", free(1, api.U256{most, most, most, 1<<63 - 1}), api.OK)
	w.adds(t, "nothing more", free(2, small(1)), api.ErrPoolFunds)
	w.adds(t, "but nothing", free(2, small(0)), api.OK)
	if l := w.readies(t, wide); len(l) != 0 { // their caps are below the base fee
		t.Errorf("Ready = %+v", l)
	}
	w.do(t, step{kind: "SetBase"})
	if l := w.readies(t, wide); len(l) != 3 {
		t.Errorf("Ready = %+v", l)
	}
}

// P24.3, step 10: all that wait of this sender count, wherever their nonces are; the one whose place is taken doesn't, and no other sender's.
func TestFundsTogether(t *testing.T) {
	w := made(t, 10, wide, 20)
	w.do(t, step{kind: "SetAccount", a: of(1), v: small(21000 * 100)})
	w.adds(t, "another sender's", raw(2, 0, 1, 1000, 21000), api.OK)
	w.adds(t, "30", raw(1, 7, 1, 30, 21000), api.OK)
	w.adds(t, "60", raw(1, 3, 1, 30, 21000), api.OK)
	w.adds(t, "101", raw(1, 5, 1, 41, 21000), api.ErrPoolFunds)
	w.adds(t, "100", raw(1, 5, 1, 40, 21000), api.OK)
	w.adds(t, "101 in the place of 30", raw(1, 7, 2, 31, 21000), api.ErrPoolPrice)
	w.adds(t, "103 in the place of 30", raw(1, 7, 2, 33, 21000), api.ErrPoolFunds)
	w.do(t, step{kind: "Drop", hashes: []api.Hash{keccak.Sum(raw(1, 3, 1, 30, 21000))}})
	w.adds(t, "103 in the place of 70", raw(1, 7, 2, 63, 21000), api.ErrPoolFunds)
	w.adds(t, "100 in the place of 70", raw(1, 7, 2, 60, 21000), api.OK)
	w.adds(t, "101", raw(1, 0, 1, 1, 21000), api.ErrPoolFunds)
	w.adds(t, "100", raw(1, 0, 0, 0, 21000), api.OK)
	w.do(t, step{kind: "SetAccount", a: of(1), v: small(21000*100 - 1)})
	w.adds(t, "nothing, but there is too much already", raw(1, 1, 0, 0, 21000), api.ErrPoolFunds)
	w.adds(t, "another sender's", raw(2, 1, 1, 1000, 21000), api.OK)
	w.do(t, step{kind: "SetAccount", a: of(1), nonce: 6, v: small(21000 * 61)})
	w.adds(t, "62", raw(1, 6, 1, 2, 21000), api.ErrPoolFunds)
	w.adds(t, "61", raw(1, 6, 1, 1, 21000), api.OK)
}

// P24.3, step 10: in a full pool the one that would go still counts.
func TestFundsOfFull(t *testing.T) {
	w := made(t, 10, wide, 2)
	w.do(t, step{kind: "SetAccount", a: of(1), v: small(21000 * 50)})
	w.adds(t, "30", raw(1, 0, 1, 30, 21000), api.OK)
	w.adds(t, "another sender's", raw(2, 0, 1, 99, 21000), api.OK)
	w.adds(t, "61", raw(1, 1, 1, 31, 21000), api.ErrPoolFunds)
	w.do(t, step{kind: "SetAccount", a: of(1), v: small(21000 * 61)})
	w.adds(t, "61", raw(1, 1, 1, 31, 21000), api.OK)
	w.has(t, "the sender's own has gone", raw(1, 1, 1, 31, 21000), raw(2, 0, 1, 99, 21000))
	w.adds(t, "the gap is filled again", raw(1, 0, 1, 30, 21000), api.ErrPoolFull)
}

// P24.3, step 11: senders' last ones alone may go, last by nonce; of these the lowest cap, then the one that came last.
func TestFull(t *testing.T) {
	type one struct{ key, nonce, cap uint64 }
	for i, x := range []struct {
		ones  []one
		cap   uint64
		want  api.Errno
		place int
	}{
		{[]one{{1, 0, 20}}, 20, api.ErrPoolFull, 0}, {[]one{{1, 0, 20}}, 21, api.OK, 0}, {[]one{{1, 0, 20}}, 0, api.ErrPoolFull, 0},
		{[]one{{1, 0, 20}, {2, 0, 20}}, 21, api.OK, 1}, {[]one{{2, 0, 20}, {1, 0, 20}}, 21, api.OK, 1}, {[]one{{1, 0, 20}, {2, 0, 20}}, 20, api.ErrPoolFull, 0},
		{[]one{{1, 0, 19}, {2, 0, 20}, {3, 0, 20}}, 20, api.OK, 0}, {[]one{{1, 0, 20}, {2, 0, 19}, {3, 0, 20}}, 20, api.OK, 1}, {[]one{{1, 0, 20}, {2, 0, 20}, {3, 0, 19}}, 20, api.OK, 2},
		{[]one{{1, 0, 5}, {1, 1, 30}, {2, 0, 20}}, 21, api.OK, 2}, {[]one{{1, 1, 30}, {1, 0, 5}, {2, 0, 20}}, 21, api.OK, 2}, {[]one{{1, 1, 30}, {1, 0, 5}, {2, 0, 20}}, 20, api.ErrPoolFull, 0},
		{[]one{{1, 9, 10}, {1, 0, 5}, {1, 3, 2}, {2, 0, 20}}, 11, api.OK, 0}, {[]one{{1, 0, 30}, {1, 9, 10}, {2, 0, 20}, {2, 1, 10}}, 99, api.OK, 3}, {[]one{{2, 1, 10}, {1, 0, 30}, {1, 9, 10}, {2, 0, 20}}, 99, api.OK, 2},
		{[]one{{3, 0, 7}, {3, 1, 6}, {3, 2, 5}}, 6, api.OK, 2}, {[]one{{3, 2, 5}, {3, 1, 6}, {3, 0, 7}}, 6, api.OK, 0}, {[]one{{3, 2, 9}, {3, 1, 1}, {3, 0, 2}}, 9, api.ErrPoolFull, 0},
	} {
		w := made(t, 10, wide, len(x.ones))
		var raws [][]byte
		for _, y := range x.ones {
			raws = append(raws, raw(y.key, y.nonce, 0, y.cap, 21000))
			w.adds(t, "one by one", raws[len(raws)-1], api.OK)
		}
		b := raw(4, 0, 0, x.cap, 21000)
		w.adds(t, "one too many", b, x.want)
		if x.want == api.OK {
			raws[x.place] = b
		}
		w.has(t, fmt.Sprintf("row %d", i), raws...)
	}
}

// P24.3, step 11: what takes another one's place has come later than what came in between, and needs no room.
func TestNumberInPlace(t *testing.T) {
	w := made(t, 10, wide, 3)
	w.adds(t, "the first", raw(1, 0, 1, 20, 21000), api.OK)
	w.adds(t, "the second", raw(2, 0, 2, 30, 21000), api.OK)
	w.adds(t, "the third", raw(3, 0, 2, 30, 21000), api.OK)
	w.adds(t, "in the first one's place", raw(1, 0, 2, 30, 21000), api.OK)
	w.adds(t, "low", raw(4, 0, 2, 30, 21000), api.ErrPoolFull)
	if l := w.Ready(most); len(l) != 3 || l[0].Sender != of(2) || l[1].Sender != of(3) || l[2].Sender != of(1) {
		t.Errorf("Ready = %+v", l)
	}
	w.adds(t, "high", raw(4, 0, 2, 31, 21000), api.OK)
	w.has(t, "the one that came last has gone", raw(2, 0, 2, 30, 21000), raw(3, 0, 2, 30, 21000), raw(4, 0, 2, 31, 21000))
}

// P24.3, step 11: the sender's own last one may be what goes: a new one with a lower nonce, or a greater one.
func TestOwnLastGoes(t *testing.T) {
	for _, nonce := range []uint64{0, 1, 3, 9} {
		w := made(t, 10, wide, 2)
		w.adds(t, "the lowest", raw(1, 2, 1, 20, 21000), api.OK)
		w.adds(t, "another", raw(2, 2, 1, 21, 21000), api.OK)
		w.adds(t, "as low", raw(1, nonce, 1, 20, 21000), api.ErrPoolFull)
		w.adds(t, "higher", raw(1, nonce, 1, 21, 21000), api.OK)
		w.has(t, "its own has gone", raw(1, nonce, 1, 21, 21000), raw(2, 2, 1, 21, 21000))
	}
}

// P24.3, step 11: the cap of each type counts, not its tip.
func TestCapsOfFull(t *testing.T) {
	for low := range kinds {
		for kind := range kinds {
			for _, cap := range []uint64{19, 20, 21} {
				w := made(t, 0, wide, 3)
				w.adds(t, "higher", signed(1, typed(kind, 0, small(0), small(22))), api.OK)
				w.adds(t, "the lowest", signed(2, typed(low, 0, small(19), small(20))), api.OK)
				w.adds(t, "higher", signed(3, typed(kind, 0, small(1), small(21))), api.OK)
				want := api.ErrPoolFull
				if cap > 20 {
					want = api.OK
				}
				w.adds(t, "the next", signed(4, typed(kind, 0, small(cap), small(cap))), want)
				if gone := !w.Has(keccak.Sum(signed(2, typed(low, 0, small(19), small(20))))); gone != (want == api.OK) {
					t.Errorf("types %d and %d, the cap %d: the lowest has gone: %t", low, kind, cap, gone)
				}
			}
		}
	}
}
