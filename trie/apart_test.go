package trie_test

import (
	"bytes"
	"slices"
	"sync"
	"testing"

	"waybill/api"
	"waybill/chance"
	"waybill/trie"
)

// overwrite fills a list and its room beyond the end.
func overwrite(list []byte) {
	whole := list[:cap(list)]
	for i := range whole {
		whole[i] = 0x77
	}
}

// P12.13, P0.3: keys and values that are handed in are not kept, not written to, nor their room beyond the end.
func TestHandedIn(t *testing.T) {
	row := chance.Row(1220)
	x, c := trie.New(), content{}
	for range 300 {
		key, keyWhole := row.Roomy(row.Below(5))
		value, valueWhole := row.Roomy(1 + row.Below(80))
		for i := range key {
			key[i] &= 0x11
		}
		before := slices.Concat(keyWhole, valueWhole)
		c[string(key)] = string(value)
		if e := x.Put(key, value); e != api.OK {
			t.Fatalf("Put = %d", e)
		}
		x.Get(key)
		x.Nodes(key)
		if !bytes.Equal(slices.Concat(keyWhole, valueWhole), before) {
			t.Error("what was handed in was written to")
		}
		overwrite(key)
		overwrite(value)
	}
	checkTrie(t, x, c)
	for _, name := range c.sorted()[:100] {
		key, whole := row.Roomy(len(name))
		copy(key, name)
		before := bytes.Clone(whole)
		if !x.Delete(key) || !bytes.Equal(whole, before) {
			t.Errorf("Delete(%x), or it was written to", name)
		}
		overwrite(key)
		delete(c, name)
	}
	checkTrie(t, x, c)
}

// P12.13, P0.3: pairs and items that are handed in are not written to, nor their room.
func TestListsKept(t *testing.T) {
	row := chance.Row(1221)
	var memory [][]byte
	var pairs []api.Pair
	var items [][]byte
	for i := range 200 {
		key, keyWhole := row.Roomy(2)
		key[0], key[1] = byte(i), byte(i>>4)
		value, valueWhole := row.Roomy(1 + row.Below(50))
		pairs, items = append(pairs, api.Pair{Key: key, Value: value}), append(items, value)
		memory = append(memory, keyWhole, valueWhole)
	}
	before := bytes.Join(memory, nil)
	roomy := append(pairs, api.Pair{Key: []byte("beyond")})
	first, e := trie.Root(roomy[:len(pairs)])
	second, e2 := trie.ListRoot(append(items, nil)[:len(items)])
	if e != api.OK || e2 != api.OK || !bytes.Equal(bytes.Join(memory, nil), before) || string(roomy[len(pairs)].Key) != "beyond" {
		t.Error("what was handed in was written to")
	}
	if again, _ := trie.Root(pairs); again != first {
		t.Error("Root answers another hash the second time")
	}
	if again, _ := trie.ListRoot(items); again != second {
		t.Error("ListRoot answers another hash the second time")
	}
}

// P12.13, P0.3: who writes over an answer, or behind it, changes neither the trie nor another answer.
func TestAnswersApart(t *testing.T) {
	row := chance.Row(1222)
	x, c := trie.New(), content{}
	for range 100 {
		key, value := anyKey(&row), anyValue(&row)
		mustPut(t, x, key, value)
		c[key] = value
	}
	twin := x.Copy()
	for _, key := range c.sorted() {
		value, _ := x.Get([]byte(key))
		other, _ := x.Get([]byte(key))
		overwrite(value)
		if string(other) != c[key] {
			t.Errorf("two answers of Get(%x) share memory", key)
		}
		nodes, again := x.Nodes([]byte(key)), x.Nodes([]byte(key))
		for i, b := range nodes {
			overwrite(b)
			if rest := c.modelNodes(key)[i+1:]; !slices.EqualFunc(nodes[i+1:], rest, bytes.Equal) {
				t.Errorf("two of Nodes(%x) share memory", key)
			}
		}
		if want := c.modelNodes(key); !slices.EqualFunc(again, want, bytes.Equal) {
			t.Errorf("two answers of Nodes(%x) share memory", key)
		}
	}
	each := x.Each()
	for key, value := range each {
		overwrite(key)
		overwrite(value)
	}
	checkTrie(t, x, c)
	checkTrie(t, twin, c)
	if got := given(each, len(c)+1); !slices.Equal(got, c.sorted()) {
		t.Errorf("Each gives what was written over: %x", got)
	}
}

// P12.13: what Each gives is each time new memory, that stays as it is while the trie changes.
func TestGivenStays(t *testing.T) {
	c := content{"a": "x", "ab": long, "b": "z", "": "v"}
	x := c.filled(t)
	var kept []api.Pair
	for key, value := range x.Each() {
		for _, p := range kept {
			overwrite(p.Key[len(p.Key):])
		}
		kept = append(kept, api.Pair{Key: key, Value: value})
		mustPut(t, x, string(key), "other")
	}
	for i, p := range c.pairs() {
		if !bytes.Equal(kept[i].Key, p.Key) || !bytes.Equal(kept[i].Value, p.Value) {
			t.Errorf("%q under %q became %q under %q", p.Value, p.Key, kept[i].Value, kept[i].Key)
		}
	}
}

// P12.6: what is done to a copy, or to what it was made of, is not seen in the other; copies of copies too.
func TestCopy(t *testing.T) {
	row := chance.Row(1223)
	type held struct {
		x *trie.Trie
		c content
	}
	all := []held{{trie.New(), content{}}}
	for range 1500 {
		h := all[row.Below(len(all))]
		key := anyKey(&row)
		switch row.Below(20) {
		case 0:
			if len(all) < 12 {
				twin := held{h.x.Copy(), content{}}
				for key, value := range h.c {
					twin.c[key] = value
				}
				all = append(all, twin)
			}
		case 1, 2, 3, 4, 5, 6:
			h.x.Delete([]byte(key))
			delete(h.c, key)
		default:
			value := anyValue(&row)
			mustPut(t, h.x, key, value)
			h.c[key] = value
		}
		if row.Below(50) == 0 {
			for _, h := range all {
				checkMap(t, h.x, h.c)
				checkRoot(t, h.x, h.c)
			}
		}
	}
	if len(all) < 12 {
		t.Errorf("only %d tries", len(all))
	}
	for _, h := range all {
		checkTrie(t, h.x, h.c, "\x55")
	}
}

// P12.6: a copy of nothing is a trie of its own.
func TestCopyOfNothing(t *testing.T) {
	x := trie.New()
	twin := x.Copy()
	if twin == nil || twin == x {
		t.Fatal("Copy answers no trie of its own")
	}
	mustPut(t, x, "a", "x")
	checkTrie(t, twin, content{}, "a")
	mustPut(t, twin, "b", "y")
	checkTrie(t, x, content{"a": "x"}, "b")
}

// P0.6, P12.6: copies are asked and changed at one time, each by a goroutine of its own, and answer as if they were alone.
func TestCopiesAtOneTime(t *testing.T) {
	row := chance.Row(1224)
	x, c := trie.New(), content{}
	for range 200 {
		key, value := anyKey(&row), anyValue(&row)
		mustPut(t, x, key, value)
		c[key] = value
	}
	want := c.modelRoot()
	var workers sync.WaitGroup
	for i := range 8 {
		twin := x.Copy()
		workers.Go(func() {
			row := chance.Row(uint64(i))
			key := anyKey(&row) + "\x55"
			for range 20 {
				before := twin.Root()
				twin.Put([]byte(key), []byte(long))
				twin.Nodes([]byte(key))
				if changed := twin.Root(); changed == before || before != want || !twin.Delete([]byte(key)) {
					t.Errorf("%x, with one key more %x, want %x", before, changed, want)
				}
			}
		})
	}
	workers.Wait()
	checkTrie(t, x, c)
}

// P0.6: a question changes nothing: the same again has the same answer.
func TestSameAgain(t *testing.T) {
	c := content{"do": "verb", "dog": "puppy", "doge": long, "horse": "stallion"}
	x := c.filled(t)
	for range 3 {
		checkTrie(t, x, c, "", "d", "cat")
		x.Put(make([]byte, 65), []byte("x"))
		x.Put([]byte("cat"), nil)
		x.Delete([]byte("cat"))
		x.Nodes(make([]byte, 65))
		given(x.Each(), 2)
		trie.New().Put([]byte("do"), []byte("other"))
		trie.Root([]api.Pair{pair("do", "other")})
	}
}
