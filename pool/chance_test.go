package pool_test

import (
	"testing"

	"waybill/api"
	"waybill/chance"
	"waybill/keccak"
)

// anyCap tells a cap or a tip, from few of them: many differ by a tenth or so.
func anyCap(row *chance.Row) uint64 {
	caps := []uint64{0, 1, 2, 9, 10, 11, 12, 13, 20, 22, 24, 25, 26, 27, 100}
	return caps[row.Below(len(caps))]
}

// anyRaw tells a transaction's bytes, mostly one that may come in.
func anyRaw(row *chance.Row, m *model) []byte {
	if len(m.waiting) > 0 && row.Below(12) == 0 {
		return []byte(m.waiting[row.Below(len(m.waiting))].raw)
	}
	key := uint64(row.Below(keys)) + 1
	nonce := m.nonces[of(key)] + uint64(row.Below(4))
	if row.Below(8) == 0 {
		nonce -= uint64(row.Below(3))
	}
	x := typed(row.Below(kinds), nonce, small(anyCap(row)), small(anyCap(row)))
	if cap, tip := modelCaps(x); tip.Cmp(cap) > 0 && row.Below(12) > 0 {
		x.Tip, x.Cap = x.Cap, x.Tip
	}
	if x.Gas = 46000 + 1000*uint64(row.Below(6)); row.Below(25) == 0 {
		x.Gas = 20000 + 32000*uint64(row.Below(2))
	}
	switch row.Below(12) {
	case 0:
		x.Value = small(uint64(row.Below(3000000)))
	case 1:
		x.Chain = uint64(row.Below(3))
	case 2:
		x.Value = row.Number()
	}
	b := signed(key, x)
	switch row.Below(60) {
	case 0:
		b[len(b)-40] ^= 1 // in r, mostly
	case 1:
		b[0]++
	}
	return b
}

func anyHash(row *chance.Row, m *model) api.Hash {
	if len(m.waiting) == 0 || row.Below(6) == 0 {
		return api.Hash(row.Text(32))
	}
	return m.waiting[row.Below(len(m.waiting))].hash
}

// anyStep tells a call by chance.
func anyStep(row *chance.Row, m *model) step {
	switch row.Below(14) {
	case 0:
		balances := []api.U256{{}, small(uint64(row.Below(8000000))), small(uint64(row.Below(8000000))), small(plenty), small(plenty), top}
		a := of(uint64(row.Below(keys)) + 1)
		nonce := m.nonces[a] + uint64(row.Below(3))
		if nonce > 0 && row.Below(3) == 0 {
			nonce--
		}
		return step{kind: "SetAccount", a: a, nonce: nonce, v: balances[row.Below(len(balances))]}
	case 1:
		return step{kind: "SetBase", v: small(anyCap(row))}
	case 2:
		return step{kind: "Drop", hashes: []api.Hash{anyHash(row, m)}}
	case 3:
		o := step{kind: "Mined"}
		for range row.Below(4) {
			o.hashes = append(o.hashes, anyHash(row, m))
		}
		return o
	}
	return step{kind: "Add", raw: anyRaw(row, m)}
}

// always looks whether a pool keeps P24.9; came are the hashes that Add has answered.
func always(t *testing.T, w twin, room int, came map[api.Hash]int) {
	t.Helper()
	all := w.Waiting()
	if w.Len() > room || len(all) != w.Len() {
		t.Fatalf("%d wait, %d are told, room %d", w.Len(), len(all), room)
	}
	type place struct {
		sender api.Address
		nonce  uint64
	}
	seen := map[place]int{}
	for _, x := range all {
		seen[place{x.Sender, x.Nonce}]++
		if seen[place{x.Sender, x.Nonce}] > 1 || x.Nonce < w.m.nonces[x.Sender] || came[x.Hash] == 0 {
			t.Fatalf("%+v may not wait", x)
		}
	}
}

// P24.2 to P24.10: rows of steps by chance in pools with little room, all that can be seen held against the model.
func TestChance(t *testing.T) {
	t.Parallel()
	row := chance.Row(2430)
	answers := map[int]int{}
	for n := range 48 {
		room := 1 + row.Below(2+n%12)
		w := bare(t, 1, small(anyCap(&row)), 50000, room)
		for key := range uint64(keys) {
			w.do(t, step{kind: "SetAccount", a: of(key + 1), v: small(uint64(row.Below(3)) * 4000000)})
		}
		came := map[api.Hash]int{}
		for range 80 {
			o := anyStep(&row, w.m)
			got := w.do(t, o)
			if o.kind == "Add" {
				answers[got]++
				if got == 0 {
					came[keccak.Sum(o.raw)]++
				}
			}
			always(t, w, room, came)
			w.check(t)
		}
	}
	for _, e := range []api.Errno{api.OK, api.ErrPoolKnown, api.ErrPoolChain, api.ErrPoolSender, api.ErrFeeGas, api.ErrPoolLimit, api.ErrFeeTip, api.ErrPoolNonce, api.ErrPoolPrice, api.ErrPoolFunds, api.ErrPoolFull} {
		if answers[int(e)] < 10 {
			t.Errorf("Add has answered %d only %d times", e, answers[int(e)])
		}
	}
}

// P24.3, P24.7: many senders with one transaction or two each, in a pool that grows full.
func TestManySenders(t *testing.T) {
	t.Parallel()
	const many = 200
	row := chance.Row(2431)
	w := bare(t, 1, small(1), wide, many)
	for n := range uint64(many + 50) {
		x := plain(n/150, uint64(row.Below(3)), 3+uint64(row.Below(20)), 21000+1000*uint64(row.Below(3)))
		key := n%150 + 1
		w.do(t, step{kind: "SetAccount", a: of(key), v: small(plenty)})
		w.do(t, step{kind: "Add", raw: signed(key, x)})
	}
	if w.Len() != many {
		t.Errorf("%d wait", w.Len())
	}
	w.check(t)
	for base := range uint64(8) {
		w.do(t, step{kind: "SetBase", v: small(3 * base)})
		w.check(t)
	}
}
