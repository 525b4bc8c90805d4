package pool_test

import (
	"bytes"
	"math"
	"slices"
	"testing"

	"waybill/api"
	"waybill/keccak"
	"waybill/pool"
)

// P24.1: which chains and rooms may be; in a new pool nothing waits.
func TestNew(t *testing.T) {
	for _, chain := range []uint64{0, 1, 2, 1 << 32, api.MaxChain - 1, api.MaxChain, 1 << 63, 1<<63 + 1, most} {
		for _, room := range []int{math.MinInt, -4096, -1, 0, 1, 2, 255, 256, 4095, 4096, 4097, 4098, 1 << 16, 1 << 32, 1<<32 + 1, math.MaxInt} {
			for _, base := range []api.U256{{}, top} {
				for _, limit := range []uint64{0, wide, most} {
					p, e := pool.New(chain, base, limit, room)
					if chain > api.MaxChain || room < 1 || room > 4096 {
						if p != nil || e != api.ErrArg {
							t.Errorf("New(%d, %v, %d, %d) = %v, %d", chain, base, limit, room, p, e)
						}
					} else if p == nil || e != api.OK || p.Len() != 0 || len(p.Waiting()) != 0 || len(p.Ready(most)) != 0 || p.Next(of(1)) != 0 || p.Has(noHash) {
						t.Errorf("New(%d, %v, %d, %d) = %v, %d: there is something in it", chain, base, limit, room, p, e)
					}
				}
			}
		}
	}
}

// P24.1: till SetAccount tells others, the next nonce and the balance are 0: only what costs nothing comes in.
func TestUnknownSender(t *testing.T) {
	w := bare(t, 1, small(0), wide, 9)
	w.adds(t, "a cap of 1", raw(1, 0, 0, 1, 21000), api.ErrPoolFunds)
	w.adds(t, "a cap of 0", raw(1, 0, 0, 0, 21000), api.OK)
	w.adds(t, "a cap of 0 and a Value", signed(1, api.Tx{Type: 2, Chain: 1, Nonce: 1, Gas: 21000, Value: small(1)}), api.ErrPoolFunds)
	w.adds(t, "a gap", raw(1, 7, 0, 0, 21000), api.OK)
	if l := w.Ready(most); len(l) != 1 || l[0].Nonce != 0 || w.Next(of(1)) != 1 {
		t.Errorf("Ready = %+v", l)
	}
}

// P24.1: a pool has just so much room, and takes as many as that.
func TestRoom(t *testing.T) {
	t.Parallel()
	for _, room := range []int{1, 2, 3, 150} {
		w := made(t, 0, wide, room)
		for n := range uint64(room) {
			if got := w.do(t, step{kind: "Add", raw: raw(n%keys+1, n/keys, 1, 5, 21000)}); got != 0 || w.Len() != int(n)+1 {
				t.Fatalf("number %d of %d: %d, %d wait", n, room, got, w.Len())
			}
		}
		w.check(t)
		w.adds(t, "one more", raw(1, 1000, 1, 5, 21000), api.ErrPoolFull)
		w.adds(t, "one more, dearer", raw(1, 1000, 1, 6, 21000), api.OK)
	}
}

// P24.2: those with a lower nonce go, and no others; the next nonce may fall, too.
func TestSetAccount(t *testing.T) {
	nonces := []uint64{2, 3, 5, 8, most - 1}
	for _, nonce := range []uint64{0, 1, 2, 3, 4, 5, 6, 7, 8, 9, 1 << 32, 1 << 63, most - 2, most - 1, most} {
		for _, balance := range []api.U256{{}, small(1), small(plenty), top} {
			w := made(t, 5, wide, 20)
			for _, n := range nonces {
				for key := range uint64(3) {
					w.do(t, step{kind: "Add", raw: raw(key+1, n, 1, 10, 21000)})
				}
			}
			if got := w.do(t, step{kind: "SetAccount", a: of(2), nonce: nonce, v: balance}); got != 0 {
				t.Errorf("SetAccount = %d", got)
			}
			left := 0
			for _, n := range nonces {
				if n >= nonce {
					left++
				}
			}
			if w.Len() != left+10 || w.Next(of(1)) != 0 {
				t.Errorf("SetAccount(%d): %d wait, want %d", nonce, w.Len(), left+10)
			}
			w.check(t)
			w.do(t, step{kind: "SetAccount", a: of(2), nonce: 1, v: small(plenty)})
			w.check(t)
			w.do(t, step{kind: "Add", raw: raw(2, 1, 1, 10, 21000)})
			w.check(t)
		}
	}
}

// P24.2: the balance that was told last counts, whether it is more or less than before.
func TestBalances(t *testing.T) {
	w := made(t, 5, wide, 20)
	for i, x := range []struct {
		balance uint64
		want    api.Errno
	}{{209999, api.ErrPoolFunds}, {210000, api.OK}, {210000, api.ErrPoolFunds}, {419999, api.ErrPoolFunds}, {420000, api.OK}, {100, api.ErrPoolFunds}, {630000, api.OK}, {0, api.ErrPoolFunds}} {
		w.do(t, step{kind: "SetAccount", a: of(4), v: small(x.balance)})
		w.check(t)
		if got := w.do(t, step{kind: "Add", raw: raw(4, uint64(i), 1, 10, 21000)}); got != int(x.want) {
			t.Errorf("the balance %d: %d, want %d", x.balance, got, x.want)
		}
		w.check(t)
	}
}

// P24.2: another base fee changes what is told, but nothing goes.
func TestSetBase(t *testing.T) {
	w := made(t, 10, wide, 20)
	for kind := range kinds {
		w.adds(t, "of each type", signed(1, typed(kind, uint64(kind), small(3), small(100))), api.OK)
		w.adds(t, "of each type", signed(2, typed(4-kind, uint64(kind), small(100), small(100))), api.OK)
	}
	for _, x := range []struct {
		base  api.U256
		ready int
	}{{small(0), 10}, {small(96), 10}, {small(97), 10}, {small(98), 10}, {small(99), 10}, {small(100), 10}, {small(101), 0}, {top, 0}, {api.U256{100, 1}, 0}, {api.U256{0, 0, 0, 1}, 0}, {small(10), 10}} {
		if got := w.do(t, step{kind: "SetBase", v: x.base}); got != 0 || w.Len() != 10 || len(w.Ready(most)) != x.ready {
			t.Errorf("SetBase(%v) = %d: %d wait, %d are ready", x.base, got, w.Len(), len(w.Ready(most)))
		}
		w.check(t)
	}
	w.do(t, step{kind: "SetBase", v: top})
	w.adds(t, "below the base fee", raw(3, 0, 1, 1, 21000), api.OK)
}

// P24.4: what waits can be asked for and dropped, once; the others stay.
func TestDrop(t *testing.T) {
	raws := [][]byte{raw(1, 0, 1, 10, 21000), raw(1, 1, 2, 11, 21000), raw(1, 2, 3, 12, 21000), raw(2, 0, 1, 10, 21000), raw(2, 7, 1, 10, 21000)}
	absent := keccak.Sum(raw(3, 0, 1, 10, 21000))
	for drop := range raws {
		w := made(t, 5, wide, 9)
		for i, b := range raws {
			h := keccak.Sum(b)
			if _, e := w.Raw(h); e != api.ErrPoolAbsent || w.Has(h) || w.Len() != i {
				t.Errorf("it is there already: %d", e)
			}
			w.adds(t, "one by one", b, api.OK)
		}
		for _, h := range []api.Hash{{}, absent, {31: 1}} {
			if got := w.do(t, step{kind: "Drop", hashes: []api.Hash{h}}); got != 247 || w.Has(h) {
				t.Errorf("Drop(%x) = %d", h, got)
			}
			if b, e := w.Raw(h); len(b) != 0 || e != api.ErrPoolAbsent {
				t.Errorf("Raw(%x) = %x, %d", h, b, e)
			}
			w.check(t)
		}
		h := keccak.Sum(raws[drop])
		if b, e := w.Raw(h); !bytes.Equal(b, raws[drop]) || e != api.OK || !w.Has(h) {
			t.Errorf("Raw(%x) = %x, %d", h, b, e)
		}
		for _, want := range []int{0, 247} {
			if got := w.do(t, step{kind: "Drop", hashes: []api.Hash{h}}); got != want || w.Has(h) || w.Len() != 4 {
				t.Errorf("Drop = %d, want %d", got, want)
			}
			w.check(t)
		}
		w.adds(t, "again", raws[drop], api.OK)
	}
}

// P24.5: gaps, and both ends of the nonces.
func TestNext(t *testing.T) {
	w := made(t, 5, wide, 20)
	a := of(1)
	for _, x := range []struct{ nonce, want uint64 }{{1, 0}, {3, 0}, {0, 2}, {2, 4}, {6, 4}, {5, 4}, {4, 7}, {most - 1, 7}, {most - 2, 7}} {
		w.adds(t, "a nonce", raw(1, x.nonce, 1, 10, 21000), api.OK)
		if got := w.Next(a); got != x.want {
			t.Errorf("Next = %d, want %d", got, x.want)
		}
	}
	for _, x := range []struct{ nonce, want uint64 }{{0, 7}, {2, 7}, {6, 7}, {7, 7}, {8, 8}, {5, 5}, {most - 3, most - 3}, {most - 2, most}, {most - 1, most}, {most, most}, {0, 0}} {
		w.do(t, step{kind: "SetAccount", a: a, nonce: x.nonce, v: small(plenty)})
		if got := w.Next(a); got != x.want {
			t.Errorf("from %d on: Next = %d, want %d", x.nonce, got, x.want)
		}
		w.check(t)
	}
	if w.Len() != 0 || w.Next(of(2)) != 0 || w.Next(nobody) != 0 {
		t.Errorf("%d wait", w.Len())
	}
}

// P24.8: what is mined goes, and what has a lower nonce; the next nonce is the one behind it.
func TestMined(t *testing.T) {
	nonces := []uint64{0, 1, 2, 4, 5, 9}
	at := func(key, nonce uint64) api.Hash { return keccak.Sum(raw(key, nonce, 1, 10, 21000)) }
	for _, x := range []struct {
		hashes           []api.Hash
		count, one, two  int
		nextOne, nextTwo uint64
	}{
		{nil, 0, 6, 6, 3, 3},
		{[]api.Hash{{}, at(3, 0)}, 0, 6, 6, 3, 3},
		{[]api.Hash{at(1, 0)}, 1, 5, 6, 3, 3},
		{[]api.Hash{at(1, 0), at(1, 0)}, 1, 5, 6, 3, 3},
		{[]api.Hash{at(1, 2)}, 1, 3, 6, 3, 3},
		{[]api.Hash{at(1, 2), at(1, 1), at(1, 0)}, 1, 3, 6, 3, 3},
		{[]api.Hash{at(1, 0), at(1, 1), at(1, 2)}, 3, 3, 6, 3, 3},
		{[]api.Hash{at(1, 4)}, 1, 2, 6, 6, 3},
		{[]api.Hash{at(2, 9), at(1, 4), {}, at(2, 5), at(1, 5)}, 3, 1, 0, 6, 10},
		{[]api.Hash{at(1, 9), at(2, 9)}, 2, 0, 0, 10, 10},
	} {
		w := made(t, 5, wide, 20)
		for _, n := range nonces {
			w.do(t, step{kind: "Add", raw: raw(1, n, 1, 10, 21000)})
			w.do(t, step{kind: "Add", raw: raw(2, n, 1, 10, 21000)})
		}
		kept := slices.Clone(x.hashes)
		got := w.do(t, step{kind: "Mined", hashes: x.hashes})
		var left [2]int
		for _, y := range w.Waiting() {
			if y.Sender == of(1) {
				left[0]++
			} else {
				left[1]++
			}
		}
		if got != x.count || left != [2]int{x.one, x.two} || w.Next(of(1)) != x.nextOne || w.Next(of(2)) != x.nextTwo || !slices.Equal(x.hashes, kept) {
			t.Errorf("Mined(%x) = %d, %v wait, %d and %d come next", x.hashes, got, left, w.Next(of(1)), w.Next(of(2)))
		}
		w.check(t)
	}
}

// P24.8: the balance stays, a nonce that was used stays used, and the last nonce of all can be mined.
func TestMinedNonce(t *testing.T) {
	w := made(t, 5, wide, 20)
	w.do(t, step{kind: "SetAccount", a: of(1), nonce: 3, v: small(420000)})
	first, second := raw(1, 4, 1, 10, 21000), raw(1, 5, 1, 10, 21000)
	w.adds(t, "behind a gap", first, api.OK)
	w.adds(t, "behind that", second, api.OK)
	w.do(t, step{kind: "Mined", hashes: []api.Hash{keccak.Sum(first)}})
	w.has(t, "the later one", second)
	w.adds(t, "a nonce that is passed over", raw(1, 3, 1, 10, 21000), api.ErrPoolNonce)
	w.adds(t, "the nonce that was mined", first, api.ErrPoolNonce)
	w.adds(t, "two are paid for", raw(1, 6, 1, 10, 21000), api.OK)
	w.adds(t, "three are not", raw(1, 7, 1, 10, 21000), api.ErrPoolFunds)
	w.do(t, step{kind: "SetAccount", a: of(1), nonce: most - 1, v: small(420000)})
	last := raw(1, most-1, 1, 10, 21000)
	w.adds(t, "the last nonce", last, api.OK)
	if l := w.Ready(most); len(l) != 1 || w.do(t, step{kind: "Mined", hashes: []api.Hash{l[0].Hash}}) != 1 || w.Next(of(1)) != most {
		t.Errorf("Ready = %+v, then Next = %d", l, w.Next(of(1)))
	}
	w.adds(t, "used", last, api.ErrPoolNonce)
	w.adds(t, "no nonce", raw(1, most, 1, 10, 21000), api.ErrPoolNonce)
}
