package pool_test

import (
	"bytes"
	"slices"
	"testing"

	"waybill/api"
	"waybill/chance"
	"waybill/keccak"
)

// P24.6: rising senders, of one sender rising nonces, in whatever order they came in.
func TestWaitingOrder(t *testing.T) {
	row := chance.Row(2420)
	nonces := []uint64{0, 1, 2, 255, 256, 1 << 32, 1<<63 - 1, 1 << 63, most - 1}
	var raws [][]byte
	for key := range uint64(4) {
		for _, nonce := range nonces {
			raws = append(raws, raw(key+1, nonce, 1, 20, 21000))
		}
	}
	for range 3 {
		w := made(t, 10, wide, 100)
		for i := range raws {
			j := i + row.Below(len(raws)-i)
			raws[i], raws[j] = raws[j], raws[i]
			w.do(t, step{kind: "Add", raw: raws[i]})
		}
		w.check(t)
		all := w.Waiting()
		for i, x := range all {
			if i == 0 || all[i-1].Sender == x.Sender && all[i-1].Nonce < x.Nonce {
				continue
			}
			if bytes.Compare(all[i-1].Sender[:], x.Sender[:]) >= 0 {
				t.Errorf("number %d, %+v, comes behind %+v", i, x, all[i-1])
			}
		}
		if len(all) != len(raws) {
			t.Errorf("%d wait, want %d", len(all), len(raws))
		}
	}
}

// P24.6: the tip of each type at base fees below, at and above the cap.
func TestTips(t *testing.T) {
	w := made(t, 10, wide, 100)
	for kind := range kinds {
		w.adds(t, "one of each type", signed(uint64(kind)+1, typed(kind, 0, small(30), small(100))), api.OK)
	}
	for _, x := range []struct{ base, old, new uint64 }{{0, 100, 30}, {1, 99, 30}, {69, 31, 30}, {70, 30, 30}, {71, 29, 29}, {99, 1, 1}, {100, 0, 0}, {101, 0, 0}, {most, 0, 0}} {
		w.do(t, step{kind: "SetBase", v: small(x.base)})
		w.check(t)
		for _, y := range w.Waiting() {
			want := small(x.new)
			if y.Sender == of(1) || y.Sender == of(2) {
				want = small(x.old)
			}
			if y.Tip != want {
				t.Errorf("at the base fee %d the tip of %x is %v, want %v", x.base, y.Sender, y.Tip, want)
			}
		}
	}
	great := api.U256{0, 0, 0, 1 << 32}
	w.do(t, step{kind: "SetAccount", a: of(1), nonce: 1, v: top})
	w.adds(t, "a great tip", signed(1, typed(2, 1, great, great)), api.OK)
	for _, base := range []api.U256{{}, {1}, {0, 0, 0, 1}, {most, most, most, 1<<32 - 1}, great, {1, 0, 0, 1 << 32}} {
		w.do(t, step{kind: "SetBase", v: base})
		w.check(t)
	}
}

// fill puts one a line into a pool: key, nonce, tip, cap, gas.
func fill(t *testing.T, w twin, rows ...[5]uint64) {
	t.Helper()
	for _, r := range rows {
		w.adds(t, "it fits", raw(r[0], r[1], r[2], r[3], r[4]), api.OK)
	}
}

// wantReady wants just these to be ready, in their order: key and nonce.
func wantReady(t *testing.T, what string, w twin, gas uint64, want ...[2]uint64) {
	t.Helper()
	var got [][2]uint64
	for _, x := range w.readies(t, gas) {
		for key := range uint64(keys) {
			if of(key+1) == x.Sender {
				got = append(got, [2]uint64{key + 1, x.Nonce})
			}
		}
	}
	if !slices.Equal(got, want) {
		t.Errorf("%s: Ready(%d) tells %v, want %v", what, gas, got, want)
	}
}

// P24.7: the greatest tip first, but the nonces of one sender in their order; of one tip the lowest number.
func TestReadyOrder(t *testing.T) {
	w := made(t, 10, wide, 20)
	fill(t, w, [5]uint64{1, 0, 1, 50, 21000}, [5]uint64{1, 1, 9, 50, 21000}, [5]uint64{2, 0, 5, 50, 21000}, [5]uint64{2, 1, 5, 12, 21000}, [5]uint64{3, 1, 30, 99, 21000})
	wantReady(t, "two senders, and one with a gap", w, most, [2]uint64{2, 0}, [2]uint64{2, 1}, [2]uint64{1, 0}, [2]uint64{1, 1})
	fill(t, w, [5]uint64{3, 0, 2, 50, 21000})
	wantReady(t, "without the gap", w, most, [2]uint64{2, 0}, [2]uint64{2, 1}, [2]uint64{3, 0}, [2]uint64{3, 1}, [2]uint64{1, 0}, [2]uint64{1, 1})
	w.do(t, step{kind: "SetBase", v: small(11)})
	wantReady(t, "another base fee", w, most, [2]uint64{2, 0}, [2]uint64{3, 0}, [2]uint64{3, 1}, [2]uint64{1, 0}, [2]uint64{1, 1}, [2]uint64{2, 1})
	v := made(t, 10, wide, 20)
	for key := uint64(keys); key > 0; key-- {
		fill(t, v, [5]uint64{key, 1, 3, 20, 21000}, [5]uint64{key, 0, 3, 20, 21000})
	}
	wantReady(t, "one tip", v, most, [2]uint64{5, 0}, [2]uint64{5, 1}, [2]uint64{4, 0}, [2]uint64{4, 1}, [2]uint64{3, 0}, [2]uint64{3, 1}, [2]uint64{2, 0}, [2]uint64{2, 1}, [2]uint64{1, 0}, [2]uint64{1, 1})
	fill(t, v, [5]uint64{5, 0, 4, 22, 21000}) // a greater tip, and later than all others
	wantReady(t, "the first one's follower came ahead of all others", v, 42000, [2]uint64{5, 0}, [2]uint64{5, 1})
}

// P24.7: numbers go by the order of coming in, not by nonces or senders: the follower waits for its turn.
func TestReadyNumbers(t *testing.T) {
	w := made(t, 10, wide, 20)
	fill(t, w, [5]uint64{1, 0, 3, 20, 21000}, [5]uint64{2, 0, 3, 20, 21000}, [5]uint64{1, 1, 3, 20, 21000}, [5]uint64{3, 0, 3, 20, 21000}, [5]uint64{2, 1, 3, 20, 21000})
	wantReady(t, "one tip", w, most, [2]uint64{1, 0}, [2]uint64{2, 0}, [2]uint64{1, 1}, [2]uint64{3, 0}, [2]uint64{2, 1})
	w.do(t, step{kind: "Drop", hashes: []api.Hash{keccak.Sum(raw(1, 0, 3, 20, 21000))}})
	wantReady(t, "the first has gone", w, most, [2]uint64{2, 0}, [2]uint64{3, 0}, [2]uint64{2, 1})
	fill(t, w, [5]uint64{1, 0, 3, 20, 21000})
	wantReady(t, "the first is the last", w, most, [2]uint64{2, 0}, [2]uint64{3, 0}, [2]uint64{2, 1}, [2]uint64{1, 0}, [2]uint64{1, 1})
}

// P24.7: what needs more gas than is left ends its sender's row, and no other one's.
func TestReadyGas(t *testing.T) {
	w := made(t, 10, wide, 20)
	fill(t, w, [5]uint64{1, 0, 9, 50, 60000}, [5]uint64{1, 1, 9, 50, 21000}, [5]uint64{2, 0, 5, 50, 30000}, [5]uint64{2, 1, 5, 50, 21000}, [5]uint64{3, 0, 1, 50, 22000})
	one, two := [2]uint64{1, 0}, [2]uint64{2, 0}
	oneMore, twoMore, three := [2]uint64{1, 1}, [2]uint64{2, 1}, [2]uint64{3, 0}
	for _, x := range []struct {
		gas  uint64
		want [][2]uint64
	}{
		{0, nil}, {20999, nil}, {21000, nil}, {21999, nil}, {22000, [][2]uint64{three}}, {29999, [][2]uint64{three}}, {30000, [][2]uint64{two}}, {50999, [][2]uint64{two}}, {51000, [][2]uint64{two, twoMore}}, {52000, [][2]uint64{two, twoMore}}, {59999, [][2]uint64{two, twoMore}},
		{60000, [][2]uint64{one}}, {80999, [][2]uint64{one}}, {81000, [][2]uint64{one, oneMore}}, {103000, [][2]uint64{one, oneMore, three}}, {111000, [][2]uint64{one, oneMore, two}}, {132000, [][2]uint64{one, oneMore, two, twoMore}}, {153999, [][2]uint64{one, oneMore, two, twoMore}}, {154000, [][2]uint64{one, oneMore, two, twoMore, three}}, {most, [][2]uint64{one, oneMore, two, twoMore, three}},
	} {
		wantReady(t, "so much gas", w, x.gas, x.want...)
	}
}

// P24.7: a cap at the base fee is enough; one below it ends its sender's row.
func TestReadyBase(t *testing.T) {
	w := made(t, 10, wide, 20)
	fill(t, w, [5]uint64{1, 0, 1, 50, 21000}, [5]uint64{1, 1, 1, 30, 21000}, [5]uint64{1, 2, 1, 90, 21000}, [5]uint64{2, 0, 1, 31, 21000}, [5]uint64{3, 0, 0, 29, 21000})
	for _, x := range []struct {
		base api.U256
		want [][2]uint64
	}{
		{small(29), [][2]uint64{{1, 0}, {1, 1}, {1, 2}, {2, 0}, {3, 0}}}, {small(30), [][2]uint64{{1, 0}, {2, 0}, {1, 1}, {1, 2}}}, {small(31), [][2]uint64{{1, 0}, {2, 0}}}, {small(32), [][2]uint64{{1, 0}}}, {small(50), [][2]uint64{{1, 0}}}, {small(51), nil}, {api.U256{0, 1}, nil}, {top, nil},
	} {
		w.do(t, step{kind: "SetBase", v: x.base})
		wantReady(t, "a base fee", w, most, x.want...)
	}
	for kind := range kinds {
		v := made(t, 20, wide, 9)
		v.adds(t, "its cap is the base fee", signed(1, typed(kind, 0, small(0), small(20))), api.OK)
		v.adds(t, "its cap is below the base fee", signed(1, typed(kind, 1, small(0), small(19))), api.OK)
		wantReady(t, "of each type", v, most, [2]uint64{1, 0})
	}
}

// P24.7: what a sender can't pay ends its row: its own sums count, also those of what came ahead, but no other sender's.
func TestReadyFunds(t *testing.T) {
	w := made(t, 10, wide, 20)
	fill(t, w, [5]uint64{1, 0, 1, 20, 21000}, [5]uint64{1, 1, 1, 30, 21000}, [5]uint64{1, 2, 1, 10, 21000}, [5]uint64{1, 3, 1, 10, 21000}, [5]uint64{2, 0, 9, 99, 21000})
	for _, x := range []struct {
		balance api.U256
		count   uint64
	}{{small(0), 0}, {small(21000*20 - 1), 0}, {small(21000 * 20), 1}, {small(21000*50 - 1), 1}, {small(21000 * 50), 2}, {small(21000*60 - 1), 2}, {small(21000 * 60), 3}, {small(21000*70 - 1), 3}, {small(21000 * 70), 4}, {top, 4}, {api.U256{0, 1}, 4}} {
		w.do(t, step{kind: "SetAccount", a: of(1), v: x.balance})
		want := [][2]uint64{{2, 0}}
		for n := range x.count {
			want = append(want, [2]uint64{1, n})
		}
		wantReady(t, "a balance", w, most, want...)
		w.check(t)
	}
	w.do(t, step{kind: "SetAccount", a: of(1), nonce: 1, v: small(21000 * 40)})
	wantReady(t, "the first one's sum counts no more", w, most, [2]uint64{2, 0}, [2]uint64{1, 1}, [2]uint64{1, 2})
	w.do(t, step{kind: "SetAccount", a: of(2)})
	wantReady(t, "the other sender's balance", w, most, [2]uint64{1, 1}, [2]uint64{1, 2})
}

// P24.7: which of a sender's is its first candidate hangs on its next nonce alone.
func TestReadyNonce(t *testing.T) {
	w := made(t, 10, wide, 20)
	fill(t, w, [5]uint64{1, 2, 1, 20, 21000}, [5]uint64{1, 3, 1, 20, 21000}, [5]uint64{1, 5, 1, 20, 21000}, [5]uint64{1, most - 1, 1, 20, 21000})
	for _, x := range []struct {
		next uint64
		want [][2]uint64
	}{{0, nil}, {1, nil}, {2, [][2]uint64{{1, 2}, {1, 3}}}, {1, nil}, {3, [][2]uint64{{1, 3}}}, {4, nil}, {5, [][2]uint64{{1, 5}}}, {0, nil}, {6, nil}, {most - 1, [][2]uint64{{1, most - 1}}}, {most, nil}} {
		w.do(t, step{kind: "SetAccount", a: of(1), nonce: x.next, v: small(plenty)})
		wantReady(t, "a next nonce", w, most, x.want...)
	}
}

// P24.7, P0.6: to ask changes nothing: the same again has the same answers.
func TestReadyChangesNothing(t *testing.T) {
	w := made(t, 10, wide, 40)
	for key := range uint64(keys) {
		for nonce := range uint64(6) {
			w.do(t, step{kind: "Add", raw: raw(key+1, nonce, 1+(key*nonce)%4, 30, 21000)})
		}
	}
	want, all := w.Ready(10*21000), w.Waiting()
	for gas := range uint64(40) {
		w.Ready(gas * 21000)
		w.Next(of(1))
		if !slices.Equal(w.Ready(10*21000), want) || !slices.Equal(w.Waiting(), all) || w.Len() != 30 {
			t.Fatal("another answer the second time")
		}
	}
	w.check(t)
}
