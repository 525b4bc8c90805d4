package state_test

import (
	"bytes"
	"sync"
	"testing"

	"waybill/api"
	"waybill/chance"
	"waybill/state"
)

// overwrite fills a list and its room beyond the end.
func overwrite(list []byte) {
	whole := list[:cap(list)]
	for i := range whole {
		whole[i] = 0x77
	}
}

// copied tells texts again, in memory of their own.
func copied(texts [][]byte) [][]byte {
	var list [][]byte
	for _, text := range texts {
		list = append(list, bytes.Clone(text))
	}
	return list
}

// P21.16, P0.3: a code that is handed in is not written to, nor its room beyond the end, and not kept.
func TestCodeHandedIn(t *testing.T) {
	row := chance.Row(2160)
	s, m := filled(t)
	for n := range 100 {
		code, whole := row.Roomy(row.Below(100))
		before := bytes.Clone(whole)
		a := anyOf(&row, someAddresses())
		if n%10 == 0 {
			both(t, s, m, step{kind: "Snapshot"})
		}
		if e := s.SetCode(a, code); e != api.OK || !bytes.Equal(whole, before) {
			t.Fatalf("SetCode = %d, or it was written to", e)
		}
		step{kind: "SetCode", a: a, code: string(code)}.modelled(m)
		overwrite(code)
		checkState(t, s, m, someAddresses(), nil)
	}
	for n := 9; n >= 0; n-- {
		both(t, s, m, step{kind: "Revert", number: n})
		checkState(t, s, m, someAddresses(), nil)
	}
}

// P21.16, P0.3: who writes over an answer, or behind it, changes neither the state, nor what a mark remembers, nor another answer.
func TestAnswersApart(t *testing.T) {
	row := chance.Row(2161)
	s, m := filled(t)
	for range 3 {
		for range 60 {
			both(t, s, m, anyChange(&row))
		}
		both(t, s, m, step{kind: "SetCode", a: one, code: "a code that marks remember"})
		both(t, s, m, step{kind: "Store", a: one, key: cell, v: top})
		both(t, s, m, step{kind: "Snapshot"})
		for _, a := range someAddresses() {
			code, again := s.Code(a), s.Code(a)
			overwrite(code)
			if string(again) != m.at(a).code {
				t.Fatal("two answers of Code share memory")
			}
			overwriteNodes(t, s.Prove(a), s.Prove(a))
			for _, key := range someKeys() {
				overwriteNodes(t, s.ProveStorage(a, key), s.ProveStorage(a, key))
			}
		}
		checkState(t, s, m, someAddresses(), someKeys())
	}
	for n := 2; n >= 0; n-- {
		for _, a := range someAddresses() {
			both(t, s, m, step{kind: "SetCode", a: a, code: "x"})
			overwrite(s.Code(a))
		}
		both(t, s, m, step{kind: "Revert", number: n})
		checkState(t, s, m, someAddresses(), someKeys())
	}
}

// overwriteNodes writes over an answer, node by node, and looks whether the others stay, and those of a second answer.
func overwriteNodes(t *testing.T, nodes, again [][]byte) {
	t.Helper()
	want := copied(nodes)
	for i := range nodes {
		overwrite(nodes[i])
		if !sameTexts(nodes[i+1:], want[i+1:]) {
			t.Fatal("two nodes share memory")
		}
	}
	if !sameTexts(again, want) {
		t.Fatal("two answers share memory")
	}
}

// P0.3: what Parse, Show and ShowStorage are handed is not written to, nor the room behind; Item's answers are apart.
func TestBytesApart(t *testing.T) {
	row := chance.Row(2162)
	s := state.New()
	for range 30 {
		anyChange(&row).answered(s)
		s.Store(one, api.Hash(row.Text(32)), row.Number())
	}
	for n := range 50 {
		entry := anyEntry(&row)
		first, _ := state.Item(entry)
		second, _ := state.Item(entry)
		text, whole := row.Roomy(len(first))
		copy(text, first)
		before := bytes.Clone(whole)
		got, e := state.Parse(text)
		if got != entry || e != api.OK || !bytes.Equal(whole, before) {
			t.Fatal("Parse has written into what it was given")
		}
		state.Parse(text[:row.Below(len(text))])
		if !bytes.Equal(whole, before) {
			t.Fatal("Parse has written into what it refused")
		}
		overwrite(first)
		if !bytes.Equal(second, modelItem(entry)) {
			t.Fatal("two answers of Item share memory")
		}
		a, key := someAddresses()[n%7], someKeys()[n%5]
		nodes, memory := roomy(&row, s.Prove(a))
		numbers, more := roomy(&row, s.ProveStorage(one, key))
		kept := copied(append(memory, more...))
		shown(t, s.Root(), a, nodes)
		shown(t, s.Root(), a, nodes[:len(nodes)/2])
		shownCell(t, s.StorageRoot(one), key, numbers)
		shownCell(t, s.StorageRoot(one), key, numbers[:len(numbers)/2])
		if !sameTexts(append(memory, more...), kept) || nodes[:len(nodes)+1][len(nodes)] != nil || numbers[:len(numbers)+1][len(numbers)] != nil {
			t.Fatal("a proof was written to")
		}
	}
}

// roomy tells texts again that have room beyond their ends, in a list that has room too, and all of the memory.
func roomy(row *chance.Row, texts [][]byte) (again, memory [][]byte) {
	for _, text := range texts {
		twin, whole := row.Roomy(len(text))
		copy(twin, text)
		again, memory = append(again, twin), append(memory, whole)
	}
	return append(again, nil)[:len(texts)], memory
}

// P21.16: two states have nothing to do with one another, their marks neither; they begin alike and part.
func TestStatesApart(t *testing.T) {
	row := chance.Row(2163)
	for range 20 {
		s, m := filled(t)
		twin, n := filled(t)
		for range 60 {
			o := anyStep(&row, len(m.marks))
			both(t, s, m, o)
			both(t, twin, n, o)
		}
		for range 100 {
			if row.Below(2) == 0 {
				both(t, s, m, anyStep(&row, len(m.marks)))
			} else {
				both(t, twin, n, anyStep(&row, len(n.marks)))
			}
			checkMap(t, s, m, someAddresses(), someKeys())
			checkMap(t, twin, n, someAddresses(), someKeys())
		}
		checkState(t, s, m, someAddresses(), someKeys())
		checkState(t, twin, n, someAddresses(), someKeys())
	}
}

// P0.6: states that are changed and asked at one time, each by a goroutine of its own, answer as if they were alone.
func TestAtOneTime(t *testing.T) {
	rootOf := func(seed int) api.Hash {
		row, s, marks := chance.Row(uint64(seed)), state.New(), 0
		for range 300 {
			o := anyStep(&row, marks)
			switch answer := o.answered(s); {
			case o.kind == "Snapshot":
				marks = answer + 1
			case o.kind == "Revert" && answer == 0:
				marks = o.number
			}
			if row.Below(30) == 0 {
				s.Prove(one)
				s.Root()
			}
		}
		return s.Root()
	}
	var want, got [8]api.Hash
	for i := range want {
		want[i] = rootOf(i)
	}
	var workers sync.WaitGroup
	for i := range got {
		workers.Go(func() { got[i] = rootOf(i) })
	}
	workers.Wait()
	if got != want {
		t.Errorf("at one time: %x, want %x", got, want)
	}
}

// P0.6: a question changes nothing, and what is refused neither: the same again has the same answer.
func TestSameAgain(t *testing.T) {
	row := chance.Row(2164)
	s, m := filled(t)
	for range 80 {
		both(t, s, m, anyChange(&row))
	}
	for _, o := range []step{{kind: "SetNonce", a: one, nonce: lastNonce}, {kind: "Destroy", a: two}, {kind: "Mint", a: two, v: top}, {kind: "Mint", a: three, v: small(1)}, {kind: "Snapshot"}} {
		both(t, s, m, o)
	}
	untouched := someAddresses()[6]
	before, answers := s.Prove(one), []int{212, 211, 211, 210, 210, 213, 213, 2, 0}
	for range 3 {
		for i, o := range []step{
			{kind: "Bump", a: one}, {kind: "Mint", a: two, v: small(1)}, {kind: "Transfer", a: three, b: two, v: small(1)}, {kind: "Burn", a: untouched, v: small(1)}, {kind: "Transfer", a: untouched, b: two, v: small(1)},
			{kind: "Revert", number: -1}, {kind: "Revert", number: 1}, {kind: "SetCode", a: one, code: string(make([]byte, api.MaxInput+1))}, {kind: "Destroy", a: untouched},
		} {
			if got := o.answered(s); got != answers[i] {
				t.Errorf("%s = %d, want %d", o.kind, got, answers[i])
			}
			checkMap(t, s, m, someAddresses(), someKeys())
		}
		checkState(t, s, m, someAddresses(), someKeys())
		given(s.Each(), 1)
		if again := s.Prove(one); !sameTexts(again, before) {
			t.Error("Prove answers something else the second time")
		}
	}
	both(t, s, m, step{kind: "Revert"})
	checkState(t, s, m, someAddresses(), someKeys())
}
