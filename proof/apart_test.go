package proof_test

import (
	"bytes"
	"slices"
	"sync"
	"testing"

	"waybill/api"
	"waybill/chance"
	"waybill/proof"
)

// overwrite fills a list and its room beyond the end.
func overwrite(list []byte) {
	whole := list[:cap(list)]
	for i := range whole {
		whole[i] = 0x77
	}
}

// roomy tells texts again that have room beyond their ends, in a list that has room too, and all of the memory.
func roomy(row *chance.Row, texts [][]byte) (again, memory [][]byte) {
	for _, text := range texts {
		twin, whole := row.Roomy(len(text))
		copy(twin, text)
		again, memory = append(again, twin), append(memory, whole)
	}
	beyond := row.Text(10)
	return append(again, beyond)[:len(texts)], append(memory, beyond)
}

// P0.3: what is handed in is not written to, nor its room beyond the end.
func TestHandedIn(t *testing.T) {
	row := chance.Row(1340)
	for range 50 {
		x, held := anyTrie(t, &row, 30)
		root := x.Root()
		keys, keyMemory := roomy(&row, list(append(held, "", "\x55")...))
		bundle, e := proof.Bundle(x, keys...)
		if e != api.OK {
			t.Fatalf("Bundle = %d", e)
		}
		nodes, nodeMemory := roomy(&row, bundle)
		single, singleMemory := roomy(&row, mustProve(t, x, string(keys[0])))
		memory := slices.Concat(keyMemory, nodeMemory, singleMemory)
		before := bytes.Join(memory, nil)
		firstOf := func(list [][]byte) []byte { return list[:len(list)+1][len(list)] }
		beyond := [][]byte{firstOf(keys), firstOf(nodes), firstOf(single)}
		values, _, e := proof.Check(root, keys, nodes)
		value, _, e2 := proof.Verify(root, keys[0], single)
		_, _, e3 := proof.Need(root, keys[0], nodes)
		if e != api.OK || e2 != api.OK || e3 != api.OK {
			t.Fatalf("%d, %d, %d", e, e2, e3)
		}
		proof.Prove(x, keys[0])
		if !bytes.Equal(bytes.Join(memory, nil), before) || !slices.EqualFunc(beyond, [][]byte{firstOf(keys), firstOf(nodes), firstOf(single)}, bytes.Equal) {
			t.Error("what was handed in was written to")
		}
		for _, whole := range memory { // the answers stay as they are
			overwrite(whole)
		}
		for i, key := range append(held, "", "\x55") {
			if want, _ := x.Get([]byte(key)); !bytes.Equal(values[i], want) || i == 0 && !bytes.Equal(value, want) {
				t.Errorf("the value of %x is kept in what was handed in", key)
			}
		}
	}
}

// P0.3: who writes over an answer, or behind it, changes neither the trie, nor the nodes, nor another answer.
func TestAnswersApart(t *testing.T) {
	row := chance.Row(1341)
	for range 50 {
		x, keys := anyTrie(t, &row, 30)
		keys = append(keys, keys...) // each key twice: its values are two
		keys = append(keys, "", "\x55")
		root := x.Root()
		bundle, _ := proof.Bundle(x, list(keys...)...)
		whole := slices.Clone(bundle)
		for i := range whole {
			whole[i] = bytes.Clone(whole[i])
		}
		values, _, e := proof.Check(root, list(keys...), bundle)
		if e != api.OK {
			t.Fatalf("Check = %d", e)
		}
		for i := range values {
			overwrite(values[i])
			for j, value := range values[i+1:] {
				if want, _ := x.Get([]byte(keys[i+1+j])); !bytes.Equal(value, want) {
					t.Fatalf("two values share memory")
				}
			}
		}
		if !slices.EqualFunc(bundle, whole, bytes.Equal) {
			t.Error("a value shares memory with a node")
		}
		for i := range bundle {
			overwrite(bundle[i])
			if !slices.EqualFunc(bundle[i+1:], whole[i+1:], bytes.Equal) {
				t.Error("two nodes share memory")
			}
		}
		single := mustProve(t, x, keys[0])
		value, _, _ := proof.Verify(root, []byte(keys[0]), single)
		overwrite(value)
		for _, b := range single {
			overwrite(b)
		}
		if again, e := proof.Bundle(x, list(keys...)...); e != api.OK || x.Root() != root || !slices.EqualFunc(again, whole, bytes.Equal) {
			t.Error("the trie has changed")
		}
	}
}

// P0.4: nil and a list of length 0 are the same.
func TestNilAndEmpty(t *testing.T) {
	leaf := unhex("c2 20 78")
	x := pairsOf(t, "", "x")
	for _, key := range [][]byte{nil, {}} {
		if nodes, e := proof.Prove(x, key); e != api.OK || len(nodes) != 1 || !bytes.Equal(nodes[0], leaf) {
			t.Errorf("Prove = %x, %d", nodes, e)
		}
		if value, there, e := proof.Verify(x.Root(), key, [][]byte{leaf}); string(value) != "x" || !there || e != api.OK {
			t.Errorf("Verify = %x, %t, %d", value, there, e)
		}
		if values, _, e := proof.Check(x.Root(), [][]byte{key}, [][]byte{leaf}); e != api.OK || len(values) != 1 || string(values[0]) != "x" {
			t.Errorf("Check = %x, %d", values, e)
		}
		for _, nodes := range [][][]byte{nil, {}} {
			if _, _, e := proof.Verify(x.Root(), key, nodes); e != api.ErrProofShort {
				t.Errorf("Verify = %d", e)
			}
			if hash, needs, e := proof.Need(x.Root(), key, nodes); hash != x.Root() || !needs || e != api.OK {
				t.Errorf("Need = %x, %t, %d", hash, needs, e)
			}
			for _, keys := range [][][]byte{nil, {}} {
				if values, there, e := proof.Check(x.Root(), keys, nodes); len(values)+len(there) != 0 || e != api.OK {
					t.Errorf("Check = %x, %t, %d", values, there, e)
				}
			}
		}
	}
}

// P0.6: the same again has the same answer, also while others ask at the same time.
func TestSameAgain(t *testing.T) {
	row := chance.Row(1342)
	x, keys := anyTrie(t, &row, 200)
	root := x.Root()
	nodes, e := proof.Bundle(x, list(keys...)...)
	single := mustProve(t, x, keys[0])
	if e != api.OK {
		t.Fatalf("Bundle = %d", e)
	}
	var workers sync.WaitGroup
	for range 8 {
		workers.Go(func() {
			for range 5 {
				values, _, e := proof.Check(root, list(keys...), nodes)
				value, _, e2 := proof.Verify(root, []byte(keys[0]), single)
				_, needs, e3 := proof.Need(root, []byte(keys[0]), nodes)
				if e != api.OK || e2 != api.OK || e3 != api.OK || needs || !bytes.Equal(values[0], value) {
					t.Errorf("%d, %d, %d", e, e2, e3)
				}
				if _, _, e := proof.Check(root, list(keys...), nodes[1:]); e != api.ErrProofShort {
					t.Errorf("one left out: %d", e)
				}
			}
		})
	}
	workers.Wait()
	if again, _ := proof.Bundle(x, list(keys...)...); !slices.EqualFunc(again, nodes, bytes.Equal) {
		t.Error("Bundle answers other nodes the second time")
	}
}
