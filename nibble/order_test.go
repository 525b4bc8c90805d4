package nibble_test

import (
	"slices"
	"testing"

	"waybill/chance"
	"waybill/nibble"
)

// P11.5, P11.6: the chapter's fourth example.
func TestExampleOfOrder(t *testing.T) {
	if n := nibble.Common([]byte{1, 2, 3}, []byte{1, 2, 4}); n != 2 {
		t.Errorf("Common(1 2 3, 1 2 4) = %d", n)
	}
	if n := nibble.Common([]byte{1}, nil); n != 0 {
		t.Errorf("Common(1, ()) = %d", n)
	}
	for _, x := range []struct {
		a, b []byte
		want int
	}{{[]byte{1, 2}, []byte{1, 2, 0}, -1}, {[]byte{2}, []byte{1, 9}, 1}, {nil, nil, 0}, {nil, []byte{}, 0}, {[]byte{}, nil, 0}, {[]byte{255}, []byte{3}, 1}} {
		if got := nibble.Compare(x.a, x.b); got != x.want {
			t.Errorf("Compare(%v, %v) = %d", x.a, x.b, got)
		}
	}
}

// P11.5, P11.6: each byte against each, alone and behind others: an order of signed bytes, or of differences in a byte, would show.
func TestEachByteAgainstEach(t *testing.T) {
	for a := range 256 {
		for b := range 256 {
			checkPair(t, []byte{byte(a)}, []byte{byte(b)})
			checkPair(t, []byte{7, byte(a), 9}, []byte{7, byte(b)})
		}
	}
}

// P11.5, P11.6: all lists of at most four elements of 0, 1 and 255 against each other.
func TestShortLists(t *testing.T) {
	lists := [][]byte{nil}
	for i := 0; i < len(lists); i++ {
		if len(lists[i]) < 4 {
			for _, v := range []byte{0, 1, 255} {
				lists = append(lists, append(slices.Clone(lists[i]), v))
			}
		}
	}
	for _, a := range lists {
		for _, b := range lists {
			checkPair(t, a, b)
		}
	}
}

// P11.5, P11.6: lists by chance that begin alike.
func TestPairs(t *testing.T) {
	row := chance.Row(21)
	counts := map[int]int{}
	for range 5000 {
		a, b := anyPair(&row)
		counts[checkPair(t, a, b)]++
	}
	long := row.Text(100000)
	checkPair(t, long, slices.Clone(long))
	checkPair(t, long, long[:99999])
	if counts[-1] < 500 || counts[0] < 500 || counts[1] < 500 {
		t.Errorf("so many of each order: %v", counts)
	}
}

// P11.8: keys cut into nibbles have the keys' order, and twice as much in common, or one more.
func TestOrderOfKeys(t *testing.T) {
	row := chance.Row(22)
	more := map[int]int{}
	for range 5000 {
		a, b := anyPair(&row)
		if row.Below(3) == 0 && len(a) > 0 { // the last byte alone differs, and there the lower half alone
			b = slices.Clone(a)
			b[len(b)-1] ^= byte(1 + row.Below(15))
		}
		if got, want := nibble.Compare(nibble.Of(a), nibble.Of(b)), nibble.Compare(a, b); got != want {
			t.Errorf("Compare of %x and %x is %d, of their nibbles %d", a, b, want, got)
		}
		over := nibble.Common(nibble.Of(a), nibble.Of(b)) - 2*nibble.Common(a, b)
		if over != 0 && over != 1 {
			t.Errorf("the nibbles of %x and %x have %d more than twice in common", a, b, over)
		}
		more[over]++
	}
	if more[0] < 500 || more[1] < 500 {
		t.Errorf("so often none and one more: %v", more)
	}
}

// P11.6: Compare sorts, as an order must.
func TestSorted(t *testing.T) {
	row := chance.Row(23)
	var lists [][]byte
	for range 300 {
		lists = append(lists, anyRow(&row, row.Below(6)))
	}
	slices.SortFunc(lists, nibble.Compare)
	for i := range lists {
		for j := range i {
			if nibble.Compare(lists[j], lists[i]) > 0 {
				t.Errorf("%v stands ahead of %v", lists[j], lists[i])
			}
		}
	}
}
