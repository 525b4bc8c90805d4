package state_test

import (
	"math"
	"slices"
	"testing"

	"waybill/api"
	"waybill/chance"
	"waybill/state"
)

// P21.7, P21.8: the chapter's fourth example.
func TestMarkExample(t *testing.T) {
	s, m := filled(t)
	for i, x := range []struct {
		o       step
		want    int
		balance uint64
	}{
		{step{kind: "Snapshot"}, 0, 0}, {step{kind: "Mint", a: one, v: small(1)}, 0, 1}, {step{kind: "Snapshot"}, 1, 1}, {step{kind: "Mint", a: one, v: small(1)}, 0, 2},
		{step{kind: "Revert"}, 0, 0}, {step{kind: "Revert", number: 1}, int(api.ErrStMark), 0}, {step{kind: "Revert"}, int(api.ErrStMark), 0}, {step{kind: "Snapshot"}, 0, 0},
	} {
		if got := both(t, s, m, x.o); got != x.want || s.Balance(one) != small(x.balance) {
			t.Errorf("step %d: %d with %v, want %d with %d", i, got, s.Balance(one), x.want, x.balance)
		}
	}
}

// P21.8: which numbers are the places of marks; a Revert that is refused changes nothing, the marks neither.
func TestNoSuchMark(t *testing.T) {
	for marks := range 5 {
		s, m := filled(t)
		for range marks {
			both(t, s, m, step{kind: "Mint", a: one, v: small(1)})
			both(t, s, m, step{kind: "Snapshot"})
			both(t, s, m, step{kind: "Store", a: one, key: cell, v: small(1)})
		}
		for _, number := range []int{-1, -2, marks, marks + 1, math.MaxInt, math.MinInt, math.MaxInt32 + 1} {
			if e := s.Revert(number); e != api.ErrStMark {
				t.Errorf("Revert(%d) with %d marks: %d", number, marks, e)
			}
			checkMap(t, s, m, someAddresses(), someKeys())
		}
		if got := s.Snapshot(); got != marks {
			t.Errorf("the next mark is %d, want %d", got, marks)
		}
		for number := marks; number >= 0; number-- {
			if e := s.Revert(number); e != api.OK || s.Balance(one) != small(uint64(min(number+1, marks))) {
				t.Errorf("Revert(%d) = %d with %v", number, e, s.Balance(one))
			}
			if e := s.Revert(number); e != api.ErrStMark {
				t.Errorf("Revert(%d) again = %d", number, e)
			}
		}
	}
}

// P21.8: from each of several marks back to each one, marks set anew in between.
func TestBackToEach(t *testing.T) {
	row := chance.Row(2130)
	for marks := 1; marks <= 6; marks++ {
		for to := range marks {
			s, m := filled(t)
			for range marks {
				for range row.Below(6) {
					both(t, s, m, anyChange(&row))
				}
				both(t, s, m, step{kind: "Snapshot"})
			}
			both(t, s, m, anyChange(&row))
			both(t, s, m, step{kind: "Revert", number: to})
			checkState(t, s, m, someAddresses(), someKeys())
			if to == 0 {
				continue
			}
			both(t, s, m, anyChange(&row))
			both(t, s, m, step{kind: "Snapshot"})
			both(t, s, m, anyChange(&row))
			both(t, s, m, step{kind: "Revert", number: to - 1})
			checkState(t, s, m, someAddresses(), someKeys())
		}
	}
}

// anyChange tells a step that is neither Snapshot nor Revert.
func anyChange(row *chance.Row) step {
	for {
		if o := anyStep(row, 0); o.kind != "Snapshot" && o.kind != "Revert" {
			return o
		}
	}
}

// fewSteps are steps at one address, a little of a second one, among which all kinds of changes come behind each other.
func fewSteps() []step {
	return []step{
		{kind: "Mint", a: one, v: small(1)}, {kind: "Burn", a: one, v: small(2)}, {kind: "Transfer", a: one, b: two, v: small(1)}, {kind: "Transfer", a: two, b: one, v: small(1)},
		{kind: "Bump", a: one}, {kind: "SetNonce", a: one}, {kind: "SetCode", a: one, code: "new"}, {kind: "SetCode", a: one},
		{kind: "Store", a: one, key: cell, v: small(7)}, {kind: "Store", a: one, key: cell}, {kind: "Store", a: one, key: other, v: small(8)}, {kind: "Store", a: one, key: other},
		{kind: "Destroy", a: one}, {kind: "Snapshot"}, {kind: "Revert"}, {kind: "Revert", number: 1},
	}
}

// P21.1 to P21.8: each row of four of the few steps, from nothing and from a whole account, with a mark ahead, held against the model; then back to the mark.
func TestRowsOfSteps(t *testing.T) {
	few := fewSteps()
	begins := [][]step{
		{{kind: "Snapshot"}},
		{{kind: "Mint", a: one, v: small(2)}, {kind: "SetCode", a: one, code: "old"}, {kind: "Store", a: one, key: cell, v: small(5)}, {kind: "Snapshot"}},
		{{kind: "Store", a: one, key: cell, v: small(5)}, {kind: "Snapshot"}},
	}
	addresses, keys := []api.Address{one, two}, []api.Hash{cell, other}
	for _, begin := range begins {
		for number := range len(few) * len(few) * len(few) * len(few) {
			s, m := filled(t, begin...)
			for rest, n := number, 0; n < 4; n++ {
				both(t, s, m, few[rest%len(few)])
				rest /= len(few)
			}
			checkMap(t, s, m, addresses, keys)
			both(t, s, m, step{kind: "Revert"})
			checkMap(t, s, m, addresses, keys)
		}
	}
}

// P21.7, P21.8: a mark remembers all of a great state, changed and destroyed all over.
func TestGreatState(t *testing.T) {
	row := chance.Row(2131)
	s, m := filled(t)
	var addresses []api.Address
	for i := range 300 {
		a := api.Address(row.Text(20))
		addresses = append(addresses, a)
		both(t, s, m, step{kind: "Mint", a: a, v: row.Number()})
		for range i % 5 {
			both(t, s, m, step{kind: "Store", a: a, key: api.Hash(row.Text(32)), v: row.Number()})
		}
	}
	root := s.Root()
	both(t, s, m, step{kind: "Snapshot"})
	for i, a := range addresses {
		switch i % 4 {
		case 0:
			both(t, s, m, step{kind: "Destroy", a: a})
		case 1:
			both(t, s, m, step{kind: "Destroy", a: a})
			both(t, s, m, step{kind: "Store", a: a, key: cell, v: small(1)})
		case 2:
			for key := range m.at(a).cells {
				both(t, s, m, step{kind: "Store", a: a, key: key})
			}
			both(t, s, m, step{kind: "Snapshot"})
		}
	}
	if s.Root() != m.trie().Root() || s.Root() == root {
		t.Error("the root of the changed state")
	}
	both(t, s, m, step{kind: "Revert"})
	checkMap(t, s, m, addresses, nil)
	if s.Root() != root || m.trie().Root() != root {
		t.Error("the root of the state that was brought back")
	}
}

// P21.7, P21.8: many marks, and many changes behind one.
func TestManyMarks(t *testing.T) {
	const many = 100000
	s := state.New()
	for i := range many {
		if got := s.Snapshot(); got != i {
			t.Fatalf("mark %d is %d", i, got)
		}
		s.Bump(one)
	}
	if e := s.Revert(many / 2); e != api.OK || s.Nonce(one) != many/2 {
		t.Errorf("half way back: %d, %d", e, s.Nonce(one))
	}
	if e := s.Revert(0); e != api.OK || s.Len() != 0 || s.Revert(0) != api.ErrStMark {
		t.Errorf("all the way back: %d", e)
	}
	s.Mint(two, small(7))
	s.Snapshot()
	for i := range uint64(many) {
		s.Store(two, cell, small(i))
	}
	if e := s.Revert(0); e != api.OK || s.Load(two, cell) != small(0) || s.Balance(two) != small(7) {
		t.Errorf("many changes of one cell: %d, %v", e, s.Load(two, cell))
	}
}

// P21.1 to P21.10, P21.14: steps by chance, all that can be seen held against the model again and again.
func TestChance(t *testing.T) {
	row := chance.Row(2132)
	answers := map[string][]int{}
	for range 60 {
		s, m := filled(t)
		for range 250 {
			o := anyStep(&row, len(m.marks))
			if got := both(t, s, m, o); o.kind != "Snapshot" && !slices.Contains(answers[o.kind], got) {
				answers[o.kind] = append(answers[o.kind], got)
			}
			checkMap(t, s, m, someAddresses(), someKeys())
			if row.Below(25) == 0 {
				checkState(t, s, m, someAddresses(), someKeys())
			}
		}
		checkState(t, s, m, someAddresses(), someKeys())
	}
	for kind, want := range map[string]int{"Mint": 2, "Burn": 2, "Transfer": 3, "Bump": 2, "SetNonce": 1, "SetCode": 1, "Store": 1, "Destroy": 2, "Revert": 2} {
		if len(answers[kind]) != want {
			t.Errorf("%s has answered %v: not all that it can", kind, answers[kind])
		}
	}
}
