package bloom_test

import (
	"slices"
	"testing"

	"waybill/api"
	"waybill/bloom"
	"waybill/chance"
)

// checkPair holds Union and Within of two filters against their models, and against each other (P10.4).
func checkPair(t *testing.T, a, b api.Bloom) bool {
	t.Helper()
	both := modelUnion(a, b)
	if bloom.Union(a, b) != both || bloom.Union(b, a) != both {
		t.Errorf("Union(%x, %x) = %x, want %x", a, b, bloom.Union(a, b), both)
	}
	want := modelWithin(a, b)
	if got := bloom.Within(a, b); got != want || got != (bloom.Union(a, b) == b) {
		t.Errorf("Within(%x, %x) = %t, want %t", a, b, got, want)
	}
	if !bloom.Within(a, both) || !bloom.Within(b, both) {
		t.Errorf("%x or %x is not within both", a, b)
	}
	return want
}

// P10.3, P10.4: the chapter's third example.
func TestExampleOfNone(t *testing.T) {
	row := chance.Row(21)
	for range 50 {
		if text := row.Text(row.Below(40)); bloom.Has(none, text) {
			t.Errorf("no bit is set, and %x is there", text)
		}
		if b := anyFilter(&row); !bloom.Within(none, b) {
			t.Errorf("no bit is not within %x", b)
		}
	}
	if bloom.Union() != none || bloom.Union([]api.Bloom{}...) != none || bloom.Union([]api.Bloom(nil)...) != none {
		t.Error("the union of none has a bit")
	}
}

// P10.4: one filter alone, the same one twice, none and all.
func TestPairsAtTheEnds(t *testing.T) {
	row := chance.Row(22)
	for range 100 {
		b := anyFilter(&row)
		if bloom.Union(b) != b || bloom.Union(b, b) != b || bloom.Union(b, none) != b || bloom.Union(b, full()) != full() {
			t.Errorf("Union of %x and itself, none or all", b)
		}
		if !bloom.Within(b, b) || !bloom.Within(b, full()) || bloom.Within(b, none) != (b == none) || bloom.Within(full(), b) != (b == full()) {
			t.Errorf("Within of %x and itself, none or all", b)
		}
	}
}

// P10.4: each bit counts, on both sides.
func TestPairsBitByBit(t *testing.T) {
	for j := range size {
		if !bloom.Within(single(j), single(j)) || bloom.Within(single(j), without(j)) || bloom.Within(full(), without(j)) || !bloom.Within(without(j), full()) || bloom.Within(single(j), none) {
			t.Errorf("Within: bit %d", j)
		}
		other := (j + 1) % size
		if bloom.Within(single(j), single(other)) || bloom.Within(single(other), single(j)) {
			t.Errorf("Within: bits %d and %d", j, other)
		}
		if bloom.Union(single(j), without(j)) != full() || bloom.Union(single(j), single(other)) != modelFilter(bitSet{j: true, other: true}) {
			t.Errorf("Union: bit %d", j)
		}
	}
}

// P10.4: pairs by chance, many of them one within the other.
func TestPairs(t *testing.T) {
	row := chance.Row(23)
	counts := map[bool]int{}
	for i := range 600 {
		a, b := anyFilter(&row), anyFilter(&row)
		if i%3 == 0 { // one bit more, or less, than a
			b = a
			b[row.Below(256)] ^= 1 << row.Below(8)
		}
		counts[checkPair(t, a, b)]++
	}
	if counts[true] < 100 || counts[false] < 100 {
		t.Errorf("an answer hardly ever comes: %v", counts)
	}
}

// P10.4: any number of filters, in any order; what is in each is within all.
func TestUnion(t *testing.T) {
	row := chance.Row(24)
	for _, n := range []int{0, 1, 2, 3, 4, 10, 100} {
		list := make([]api.Bloom, n)
		for i := range list {
			list[i] = bloom.Of(row.Text(20), row.Text(32))
		}
		want := modelUnion(list...)
		all := bloom.Union(list...)
		if all != want {
			t.Errorf("Union of %d = %x, want %x", n, all, want)
		}
		for i, b := range list {
			if !bloom.Within(b, all) {
				t.Errorf("filter %d of %d is not within all", i, n)
			}
		}
		slices.Reverse(list)
		if bloom.Union(list...) != want {
			t.Errorf("Union of %d in another order", n)
		}
	}
}
