package trie_test

import (
	"iter"
	"slices"
	"testing"

	"waybill/chance"
	"waybill/trie"
)

// given tells the keys that an iterator gives, at most so many.
func given(each iter.Seq2[[]byte, []byte], most int) []string {
	keys := []string{}
	for key := range each {
		if keys = append(keys, string(key)); len(keys) >= most {
			break
		}
	}
	return keys
}

// P12.4: the chapter's fourth example, and keys that begin others; a key of no bytes comes first.
func TestEachOrder(t *testing.T) {
	c := content{"do": "verb", "dog": "puppy", "doge": "coin", "horse": "stallion"}
	if got := given(c.filled(t).Each(), 9); !slices.Equal(got, []string{"do", "dog", "doge", "horse"}) {
		t.Errorf("Each gives %q", got)
	}
	c = content{"": "a", "\x00": "b", "\x00\x00": "c", "\x00\xff": "d", "\x01": "e", "\x0f": "f", "\x10": "g", "\x7f": "h", "\x80": "i", "\xff": "j", "\xff\x00": "k", "\xff\xff": "l"}
	want := []string{"", "\x00", "\x00\x00", "\x00\xff", "\x01", "\x0f", "\x10", "\x7f", "\x80", "\xff", "\xff\x00", "\xff\xff"}
	if got := given(c.filled(t).Each(), 99); !slices.Equal(got, want) {
		t.Errorf("Each gives %x", got)
	}
	for range trie.New().Each() {
		t.Error("Each of a trie without keys gives something")
	}
}

// P12.4: an iterator may be stopped at every place, and gone through again.
func TestEachStopped(t *testing.T) {
	row := chance.Row(125)
	c := content{}
	for range 60 {
		c[anyKey(&row)] = anyValue(&row)
	}
	want := c.sorted()
	each := c.filled(t).Each()
	for n := 1; n <= len(want)+1; n++ {
		if got := given(each, n); !slices.Equal(got, want[:min(n, len(want))]) {
			t.Errorf("the first %d: %x", n, got)
		}
	}
	if got := given(each, len(want)+1); !slices.Equal(got, want) {
		t.Errorf("again: %x", got)
	}
	next, stop := iter.Pull2(each)
	defer stop()
	for _, key := range want {
		got, value, ok := next()
		if string(got) != key || string(value) != c[key] || !ok {
			t.Fatalf("pulled: %x, %x, %t, want %x", got, value, ok, key)
		}
		if twin := given(each, 3); !slices.Equal(twin, want[:3]) { // two at one time
			t.Errorf("a second one beside it: %x", twin)
		}
	}
}

// P12.4: the iterator speaks of the trie as it was when Each was called, not when it is gone through.
func TestEachStays(t *testing.T) {
	c := content{"a": "x", "ab": "y", "b": "z"}
	x := c.filled(t)
	before, empty := x.Each(), trie.New()
	nothing := empty.Each()
	mustPut(t, x, "a", "other")
	mustPut(t, x, "", "first")
	mustPut(t, x, "abc", "more")
	mustPut(t, empty, "a", "x")
	x.Delete([]byte("b"))
	after := x.Each()
	for _, key := range []string{"", "a", "ab", "abc"} {
		x.Delete([]byte(key))
	}
	for range 2 {
		for key, value := range before {
			if c[string(key)] != string(value) {
				t.Errorf("%q under %q", value, key)
			}
		}
		if got := given(before, 9); !slices.Equal(got, []string{"a", "ab", "b"}) {
			t.Errorf("as it was: %q", got)
		}
		if got := given(after, 9); !slices.Equal(got, []string{"", "a", "ab", "abc"}) {
			t.Errorf("as it was later: %q", got)
		}
		if got := given(nothing, 9); len(got) != 0 {
			t.Errorf("of a trie that was empty: %q", got)
		}
	}
}

// P12.4: keys put and deleted by who goes through are not seen on the way.
func TestEachWhileChanging(t *testing.T) {
	row := chance.Row(126)
	c, x := content{}, trie.New()
	for range 200 {
		key, value := anyKey(&row), anyValue(&row)
		c[key] = value
		mustPut(t, x, key, value)
	}
	var got []string
	for key, value := range x.Each() {
		if c[string(key)] != string(value) {
			t.Errorf("%x under %x, want %x", value, key, c[string(key)])
		}
		got = append(got, string(key))
		x.Delete(key)
		x.Delete([]byte(anyKey(&row)))
		mustPut(t, x, anyKey(&row), "new")
		mustPut(t, x, string(key)+"\xff", "new")
	}
	if !slices.Equal(got, c.sorted()) {
		t.Errorf("Each gives %x, want %x", got, c.sorted())
	}
}
