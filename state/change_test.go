package state_test

import (
	"bytes"
	"math/big"
	"testing"

	"waybill/api"
	"waybill/chance"
	"waybill/keccak"
	"waybill/state"
)

// edges tells numbers around which a carry or a borrow goes wrong.
func edges() []api.U256 {
	list := []api.U256{small(0), small(1), small(2), top, {1<<64 - 2, 1<<64 - 1, 1<<64 - 1, 1<<64 - 1}}
	for _, bit := range []uint{63, 64, 65, 127, 128, 192, 255} {
		v := new(big.Int).Lsh(big.NewInt(1), bit)
		list = append(list, numberOf(v), numberOf(new(big.Int).Sub(v, big.NewInt(1))), numberOf(new(big.Int).Add(v, big.NewInt(1))))
	}
	return list
}

// P21.2, P21.3: each two balances and each amount at the edges; what is refused changes nothing.
func TestAmounts(t *testing.T) {
	for _, x := range edges() {
		for _, y := range edges() {
			for _, v := range edges() {
				for _, o := range []step{{kind: "Mint", a: one, v: v}, {kind: "Burn", a: one, v: v}, {kind: "Transfer", a: one, b: two, v: v}, {kind: "Transfer", a: one, b: one, v: v}} {
					s, m := filled(t, step{kind: "Mint", a: one, v: x}, step{kind: "Mint", a: two, v: y}, o)
					checkMap(t, s, m, []api.Address{one, two}, nil)
				}
			}
		}
	}
}

// P21.2, P21.3: the chapter's second and fifth example.
func TestBalanceExamples(t *testing.T) {
	s, m := filled(t)
	for _, x := range []struct {
		o    step
		want api.Errno
		len  int
	}{
		{step{kind: "Mint", a: one, v: small(5)}, api.OK, 1},
		{step{kind: "Transfer", a: one, b: two, v: small(5)}, api.OK, 1},
		{step{kind: "Transfer", a: one, b: two, v: small(1)}, api.ErrStFunds, 1},
		{step{kind: "Mint", a: one}, api.OK, 1},
		{step{kind: "Transfer", a: one, b: one}, api.OK, 1},
		{step{kind: "Transfer", a: two, b: two, v: small(6)}, api.ErrStFunds, 1},
		{step{kind: "Transfer", a: two, b: two, v: small(5)}, api.OK, 1},
		{step{kind: "SetNonce", a: three, nonce: lastNonce}, api.OK, 2},
		{step{kind: "Bump", a: three}, api.ErrStNonce, 2},
		{step{kind: "Mint", a: one, v: top}, api.OK, 3},
		{step{kind: "Mint", a: one, v: small(1)}, api.ErrStWide, 3},
		{step{kind: "Transfer", a: two, b: one, v: small(1)}, api.ErrStWide, 3},
		{step{kind: "Transfer", a: one, b: two, v: top}, api.ErrStWide, 3},
		{step{kind: "Transfer", a: one, b: one, v: top}, api.OK, 3},
		{step{kind: "Transfer", a: two, b: one, v: small(6)}, api.ErrStFunds, 3}, // both apply: the first one counts
		{step{kind: "Burn", a: two, v: small(6)}, api.ErrStFunds, 3},
		{step{kind: "Burn", a: two, v: small(5)}, api.OK, 2},
		{step{kind: "Burn", a: two, v: small(1)}, api.ErrStFunds, 2},
		{step{kind: "Transfer", a: one, b: two, v: top}, api.OK, 2},
	} {
		if got := both(t, s, m, x.o); got != int(x.want) || s.Len() != x.len {
			t.Errorf("%v = %d with %d accounts, want %d, %d", x.o, got, s.Len(), x.want, x.len)
		}
		checkState(t, s, m, someAddresses(), nil)
	}
}

// P21.2 to P21.5: a change of one part leaves the others as they are, and the other addresses.
func TestOthersStay(t *testing.T) {
	whole := func(a api.Address, n uint64) []step {
		return []step{{kind: "Mint", a: a, v: small(n)}, {kind: "SetNonce", a: a, nonce: n + 1}, {kind: "SetCode", a: a, code: string(a[:])}, {kind: "Store", a: a, key: cell, v: small(n + 2)}, {kind: "Store", a: a, key: other, v: small(n + 3)}}
	}
	changes := []step{
		{kind: "Mint", v: small(1)}, {kind: "Burn", v: small(100)}, {kind: "Burn", v: small(101)}, {kind: "Mint", v: top}, {kind: "Transfer", b: two, v: small(100)}, {kind: "Transfer", b: three, v: small(7)}, {kind: "Transfer", b: one, v: small(7)},
		{kind: "Transfer", b: two, v: small(101)}, {kind: "Bump"}, {kind: "SetNonce"}, {kind: "SetNonce", nonce: lastNonce}, {kind: "SetCode"}, {kind: "SetCode", code: "other"},
		{kind: "Store", key: cell}, {kind: "Store", key: cell, v: top}, {kind: "Store", v: small(1)}, {kind: "Store"}, {kind: "Destroy"},
	}
	for _, first := range changes {
		for _, second := range changes {
			first.a, second.a = one, one
			s, m := filled(t, whole(one, 100)...)
			for _, o := range append(whole(two, 200), first, second) {
				both(t, s, m, o)
			}
			checkState(t, s, m, someAddresses(), someKeys())
		}
	}
}

// P21.4: nonces at both ends.
func TestNonces(t *testing.T) {
	for _, nonce := range []uint64{0, 1, 2, 1<<32 - 1, 1 << 32, 1<<63 - 1, 1 << 63, lastNonce - 1, lastNonce} {
		s, m := filled(t, step{kind: "SetNonce", a: one, nonce: nonce})
		checkState(t, s, m, someAddresses(), nil)
		if s.Nonce(one) != nonce {
			t.Errorf("SetNonce(%d): %d", nonce, s.Nonce(one))
		}
		for range 3 {
			both(t, s, m, step{kind: "Bump", a: one})
			checkState(t, s, m, someAddresses(), nil)
		}
	}
	s := state.New()
	s.SetNonce(one, lastNonce-1)
	if e := s.Bump(one); e != api.OK || s.Nonce(one) != lastNonce {
		t.Errorf("to the last nonce: %d, %d", e, s.Nonce(one))
	}
	if e := s.Bump(one); e != api.ErrStNonce || s.Nonce(one) != lastNonce {
		t.Errorf("beyond the last nonce: %d, %d", e, s.Nonce(one))
	}
}

// P21.5, P0.7: a code of just MaxInput bytes is taken; one byte more is refused, and what was there stays.
func TestLongCode(t *testing.T) {
	row := chance.Row(2120)
	long := make([]byte, api.MaxInput+1)
	copy(long[len(long)-1000:], row.Text(1000))
	s := state.New()
	if e := s.SetCode(one, long); e != api.ErrLong || s.Len() != 0 {
		t.Errorf("a byte too many: %d, %d accounts", e, s.Len())
	}
	if e := s.SetCode(one, long[1:]); e != api.OK || !bytes.Equal(s.Code(one), long[1:]) {
		t.Errorf("just MaxInput: %d", e)
	}
	if entry, ok := s.Account(one); entry.Code != keccak.Sum(long[1:]) || !ok {
		t.Errorf("its digest: %x", entry.Code)
	}
	s.Snapshot()
	if e := s.SetCode(one, long); e != api.ErrLong || !bytes.Equal(s.Code(one), long[1:]) {
		t.Errorf("a byte too many, over another code: %d", e)
	}
	s.SetCode(one, []byte("short"))
	if entry, ok, e := state.Show(s.Root(), one, s.Prove(one)); !ok || e != api.OK || entry.Code != keccak.Sum([]byte("short")) {
		t.Errorf("a shorter code: %+v, %t, %d", entry, ok, e)
	}
	if e := s.Revert(0); e != api.OK || !bytes.Equal(s.Code(one), long[1:]) {
		t.Errorf("brought back: %d", e)
	}
}

// P21.5: the chapter's third example; cells of one key at two addresses, of two keys at one, are their own.
func TestCells(t *testing.T) {
	s, m := filled(t, step{kind: "Store", a: one, key: cell, v: small(7)})
	if entry, ok := s.Account(one); !ok || entry.Nonce != 0 || entry.Balance != small(0) || s.Len() != 1 {
		t.Errorf("Account = %+v, %t", entry, ok)
	}
	both(t, s, m, step{kind: "Store", a: one, key: cell})
	if _, ok := s.Account(one); ok || s.Len() != 0 || s.Root() != hashOf(emptyRoot) {
		t.Errorf("%d accounts, the root %x", s.Len(), s.Root())
	}
	for _, a := range someAddresses() {
		for _, key := range someKeys() {
			for _, v := range []api.U256{small(1), top, small(0), {3: 1}, small(0), small(0x80)} {
				both(t, s, m, step{kind: "Store", a: a, key: key, v: v})
				checkMap(t, s, m, someAddresses(), someKeys())
			}
		}
		checkState(t, s, m, someAddresses(), someKeys())
	}
}

// P21.6: Destroy leaves nothing, and tells whether there was something; what comes later begins anew.
func TestDestroy(t *testing.T) {
	for _, o := range []step{{kind: "Mint", v: small(1)}, {kind: "Bump"}, {kind: "SetCode", code: "x"}, {kind: "Store", key: cell, v: small(1)}} {
		o.a = one
		s, m := filled(t, o, step{kind: "Store", a: two, key: cell, v: small(9)})
		if !s.Destroy(one) || s.Destroy(one) || s.Destroy(three) {
			t.Errorf("%v: Destroy", o)
		}
		both(t, s, m, step{kind: "Mint", a: two, v: small(1)})
		m.now[one] = newModel().at(one)
		checkState(t, s, m, someAddresses(), someKeys())
	}
	s, m := filled(t, step{kind: "Mint", a: one, v: small(1)}, step{kind: "Bump", a: one}, step{kind: "SetCode", a: one, code: "x"}, step{kind: "Store", a: one, key: cell, v: small(1)}, step{kind: "Store", a: one, key: other, v: small(2)}, step{kind: "Destroy", a: one})
	for _, o := range []step{{kind: "Store", a: one, key: other, v: small(3)}, {kind: "Mint", a: one, v: small(4)}, {kind: "Bump", a: one}, {kind: "Destroy", a: one}, {kind: "Bump", a: one}} {
		both(t, s, m, o)
		checkState(t, s, m, someAddresses(), someKeys())
	}
}

// balances tells all balances of a state together.
func balances(s *state.State) *big.Int {
	sum := new(big.Int)
	for a := range s.Each() {
		sum.Add(sum, bigOf(s.Balance(a)))
	}
	return sum
}

// P21.15: all balances together, step by step.
func TestNothingLost(t *testing.T) {
	row := chance.Row(2121)
	counts := map[string]int{}
	for range 100 {
		s, marks := state.New(), 0
		for range 200 {
			o := anyStep(&row, marks)
			before, had := balances(s), bigOf(s.Balance(o.a))
			answer := o.answered(s)
			want, done := before, answer == 0
			switch {
			case o.kind == "Mint" && done:
				want = new(big.Int).Add(before, bigOf(o.v))
			case o.kind == "Burn" && done:
				want = new(big.Int).Sub(before, bigOf(o.v))
			case o.kind == "Destroy":
				want = new(big.Int).Sub(before, had)
			case o.kind == "Snapshot":
				marks = answer + 1
			case o.kind == "Revert" && done:
				marks = o.number
				continue
			}
			if done && o.v != small(0) && o.a != o.b {
				counts[o.kind]++
			}
			if got := balances(s); got.Cmp(want) != 0 {
				t.Fatalf("%v, answer %d: all together %v, then %v, want %v", o, answer, before, got, want)
			}
		}
	}
	if counts["Mint"] < 100 || counts["Burn"] < 100 || counts["Transfer"] < 100 {
		t.Errorf("too few of them went well: %v", counts)
	}
}
