package state_test

import (
	"bytes"
	"iter"
	"slices"
	"testing"

	"waybill/api"
	"waybill/chance"
	"waybill/keccak"
	"waybill/state"
)

// given tells the addresses that an iterator gives, at most so many.
func given(each iter.Seq[api.Address], most int) []api.Address {
	list := []api.Address{}
	for a := range each {
		if list = append(list, a); len(list) >= most {
			break
		}
	}
	return list
}

// P21.1: a new state has nothing, no marks either, and two of them are two.
func TestNew(t *testing.T) {
	s, twin := state.New(), state.New()
	if s == nil || twin == nil || s == twin {
		t.Fatal("New answers no state of its own")
	}
	checkState(t, s, newModel(), someAddresses(), someKeys())
	if e := s.Revert(0); e != api.ErrStMark {
		t.Errorf("a new state has a mark: %d", e)
	}
	both(t, s, newModel(), step{kind: "Mint", a: one, v: small(5)})
	checkState(t, twin, newModel(), someAddresses(), someKeys())
}

// P21.1: each of the four parts alone makes an account, and taken away again leaves none; the entry tells all four.
func TestParts(t *testing.T) {
	for _, x := range []struct {
		there, gone step
	}{
		{step{kind: "SetNonce", nonce: 1}, step{kind: "SetNonce"}},
		{step{kind: "SetNonce", nonce: lastNonce}, step{kind: "SetNonce"}},
		{step{kind: "Bump"}, step{kind: "SetNonce"}},
		{step{kind: "Mint", v: small(1)}, step{kind: "Burn", v: small(1)}},
		{step{kind: "Mint", v: api.U256{3: 1 << 63}}, step{kind: "Burn", v: api.U256{3: 1 << 63}}},
		{step{kind: "Mint", v: small(3)}, step{kind: "Transfer", b: two, v: small(3)}},
		{step{kind: "SetCode", code: "\x00"}, step{kind: "SetCode"}},
		{step{kind: "Store", key: cell, v: small(7)}, step{kind: "Store", key: cell}},
		{step{kind: "Store", v: api.U256{3: 1 << 63}}, step{kind: "Store"}},
		{step{kind: "Mint", v: top}, step{kind: "Destroy"}},
	} {
		x.there.a, x.gone.a = one, one
		s, m := filled(t, x.there)
		checkState(t, s, m, someAddresses(), someKeys())
		entry, ok := s.Account(one)
		if want := (api.Account{Nonce: s.Nonce(one), Balance: s.Balance(one), Storage: s.StorageRoot(one), Code: keccak.Sum(s.Code(one))}); entry != want || !ok || s.Len() != 1 {
			t.Errorf("%v: Account = %+v, %t, Len %d", x.there, entry, ok, s.Len())
		}
		both(t, s, m, x.gone)
		checkState(t, s, m, someAddresses(), someKeys())
		if entry, ok := s.Account(one); entry != (api.Account{}) || ok {
			t.Errorf("%v, %v: Account = %+v, %t", x.there, x.gone, entry, ok)
		}
	}
}

// P21.1: what changes nothing at an address without an account makes none.
func TestNothingMakesNone(t *testing.T) {
	s, m := filled(t, step{kind: "Mint", a: two, v: small(1)})
	for _, o := range []step{
		{kind: "Mint", a: one}, {kind: "Burn", a: one}, {kind: "Transfer", a: one, b: one}, {kind: "Transfer", a: one, b: three}, {kind: "Transfer", a: two, b: one},
		{kind: "SetNonce", a: one}, {kind: "SetCode", a: one}, {kind: "Store", a: one, key: cell}, {kind: "Destroy", a: one},
		{kind: "Burn", a: one, v: small(1)}, {kind: "Transfer", a: one, b: two, v: small(1)},
	} {
		both(t, s, m, o)
		checkState(t, s, m, someAddresses(), someKeys())
		if s.Len() != 1 {
			t.Errorf("%v: %d accounts", o, s.Len())
		}
	}
}

// P21.1: Each rises by bytes, whatever came first.
func TestEachOrder(t *testing.T) {
	want := []api.Address{{}, {19: 1}, {19: 0x7f}, {19: 0x80}, {19: 0xff}, {18: 1}, {10: 3, 19: 1}, {0: 1}, {0: 0x7f, 1: 0xff}, {0: 0x80}, {0: 0xff}, {0: 0xff, 19: 1}}
	row := chance.Row(2110)
	for range 50 {
		s := state.New()
		for len(given(s.Each(), 99)) < len(want) {
			s.Mint(want[row.Below(len(want))], small(1))
		}
		if got := given(s.Each(), 99); !slices.Equal(got, want) {
			t.Fatalf("Each gives %x", got)
		}
	}
}

// P21.1: an iterator may be stopped at every place, and gone through again, also while another one goes.
func TestEachStopped(t *testing.T) {
	s, m := state.New(), newModel()
	row := chance.Row(2111)
	for range 60 {
		both(t, s, m, step{kind: "Bump", a: api.Address(row.Text(20))})
	}
	want, each := m.there(), s.Each()
	for n := 1; n <= len(want)+1; n++ {
		if got := given(each, n); !slices.Equal(got, want[:min(n, len(want))]) {
			t.Errorf("the first %d: %x", n, got)
		}
	}
	next, stop := iter.Pull(each)
	defer stop()
	for _, a := range want {
		if got, ok := next(); got != a || !ok {
			t.Fatalf("pulled: %x, %t, want %x", got, ok, a)
		}
		if got := given(each, 3); !slices.Equal(got, want[:3]) {
			t.Errorf("a second one beside it: %x", got)
		}
	}
}

// P21.1: an iterator gives the addresses as they were when Each was called, whatever is done later or on the way.
func TestEachStays(t *testing.T) {
	s := state.New()
	none := s.Each()
	s.Mint(two, small(1))
	s.Mint(one, small(1))
	both := s.Each()
	s.Snapshot()
	s.Destroy(one)
	s.Mint(three, small(1))
	later := s.Each()
	s.Revert(0)
	for range 2 {
		if got := given(none, 9); len(got) != 0 {
			t.Errorf("of a state that had nothing: %x", got)
		}
		if got := given(both, 9); !slices.Equal(got, []api.Address{one, two}) {
			t.Errorf("as it was: %x", got)
		}
		if got := given(later, 9); !slices.Equal(got, []api.Address{two, three}) {
			t.Errorf("as it was later: %x", got)
		}
	}
	var seen []api.Address
	for a := range s.Each() {
		seen = append(seen, a)
		s.Destroy(one)
		s.Destroy(two)
		s.Mint(three, small(1))
	}
	if !slices.Equal(seen, []api.Address{one, two}) || !slices.Equal(given(s.Each(), 9), []api.Address{three}) {
		t.Errorf("while it changes: %x", seen)
	}
}

// P21.16, P0.5: a nil state answers zero values and ErrArg, whatever else is wrong; nothing panics.
func TestNil(t *testing.T) {
	var s *state.State
	for _, e := range []api.Errno{
		s.Mint(one, top), s.Mint(one, small(0)), s.Burn(one, top), s.Burn(one, small(0)), s.Transfer(one, two, top), s.Transfer(one, one, small(0)), s.Bump(one), s.SetNonce(one, lastNonce),
		s.SetCode(one, nil), s.SetCode(one, make([]byte, api.MaxInput+1)), s.Store(one, cell, top), s.Store(one, cell, small(0)), s.Revert(0), s.Revert(-1), s.Revert(1),
	} {
		if e != api.ErrArg {
			t.Errorf("of a nil state: %d", e)
		}
	}
	for range 2 {
		if n := s.Snapshot(); n != 0 {
			t.Errorf("Snapshot of a nil state: %d", n)
		}
	}
	if entry, ok := s.Account(one); entry != (api.Account{}) || ok {
		t.Errorf("Account of a nil state: %+v, %t", entry, ok)
	}
	if s.Balance(one) != small(0) || s.Nonce(one) != 0 || len(s.Code(one)) != 0 || s.Load(one, cell) != small(0) || s.Destroy(one) || s.Len() != 0 {
		t.Error("a nil state has something")
	}
	if s.Root() != (api.Hash{}) || s.StorageRoot(one) != (api.Hash{}) || len(s.Prove(one)) != 0 || len(s.ProveStorage(one, cell)) != 0 {
		t.Error("a nil state has a root, or a proof")
	}
	each := s.Each()
	if each == nil {
		t.Fatal("Each of a nil state is nil")
	}
	for range 2 {
		if got := given(each, 9); len(got) != 0 {
			t.Errorf("Each of a nil state gives %x", got)
		}
	}
}

// P21.16: a zero value is as good as a new state, whichever call comes first.
func TestZeroValue(t *testing.T) {
	for _, first := range []step{
		{kind: "Mint", a: one, v: small(1)}, {kind: "Burn", a: one, v: small(1)}, {kind: "Burn", a: one}, {kind: "Transfer", a: one, b: two}, {kind: "Transfer", a: one, b: two, v: small(1)}, {kind: "Bump", a: one},
		{kind: "SetNonce", a: one, nonce: 3}, {kind: "SetNonce", a: one}, {kind: "SetCode", a: one, code: "x"}, {kind: "SetCode", a: one}, {kind: "Store", a: one, key: cell, v: small(7)}, {kind: "Store", a: one, key: cell},
		{kind: "Destroy", a: one}, {kind: "Snapshot"}, {kind: "Revert"},
	} {
		var s state.State
		m := newModel()
		both(t, &s, m, first)
		checkState(t, &s, m, someAddresses(), someKeys())
		both(t, &s, m, step{kind: "Snapshot"})
		both(t, &s, m, step{kind: "Store", a: one, key: other, v: small(1)})
		both(t, &s, m, step{kind: "Revert"})
		checkState(t, &s, m, someAddresses(), someKeys())
	}
	var s state.State
	checkState(t, &s, newModel(), someAddresses(), someKeys())
	if e := s.SetCode(one, make([]byte, api.MaxInput+1)); e != api.ErrLong {
		t.Errorf("too long a code: %d", e)
	}
}

// P21.1, P0.4: a code that was never set, or set to nothing, has no bytes.
func TestNoCode(t *testing.T) {
	s := state.New()
	for _, code := range [][]byte{nil, {}, []byte("x")[:0]} {
		if e := s.SetCode(one, code); e != api.OK || len(s.Code(one)) != 0 || s.Len() != 0 {
			t.Errorf("SetCode(nothing) = %d, Code = %x, %d accounts", e, s.Code(one), s.Len())
		}
	}
	s.SetCode(one, []byte("abc"))
	s.SetNonce(one, 1)
	if !bytes.Equal(s.Code(one), []byte("abc")) {
		t.Errorf("Code = %x", s.Code(one))
	}
	s.SetCode(one, []byte{})
	if entry, ok := s.Account(one); entry.Code != hashOf(emptyCode) || !ok {
		t.Errorf("Account without code = %+v, %t", entry, ok)
	}
}
