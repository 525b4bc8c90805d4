package bloom_test

import (
	"bytes"
	"slices"
	"testing"

	"waybill/api"
	"waybill/bloom"
	"waybill/chance"
)

// P0.3: nothing is written into a text, nor into its room beyond the end, and what stands in that room counts for nothing.
func TestTextsKept(t *testing.T) {
	row := chance.Row(41)
	for _, n := range []int{0, 1, 20, 32, 135, 136, 137, 300} {
		text, whole := row.Roomy(n)
		before := bytes.Clone(whole)
		want := modelOf(bytes.Clone(text))
		list := [][]byte{text, text, []byte("room")}
		groups := [][][]byte{list[:1], list[:2], list}
		if bloom.Of(text) != want || bloom.Of(list[:1]...) != want || bloom.Add(none, text) != want || !bloom.Has(want, text) || bloom.Places(text) != modelPlaces(bytes.Clone(text)) {
			t.Errorf("the room beyond %d bytes counts", n)
		}
		if got := bloom.Many(groups[:2]); !slices.Equal(got, []api.Bloom{want, want}) {
			t.Errorf("Many sees the room of a group, or of %d bytes", n)
		}
		if !bytes.Equal(whole, before) {
			t.Errorf("a text of %d bytes, or its room, was written to", n)
		}
		if !bytes.Equal(list[0], text) || !bytes.Equal(list[1], text) || string(list[2]) != "room" || len(groups[2]) != 3 {
			t.Error("a list of texts, or its room, was written to")
		}
	}
}

// P0.3: lists of filters and of numbers stay as they are, in their order, with their room beyond the end.
func TestListsKept(t *testing.T) {
	filters := []api.Bloom{single(1), single(2), single(3), full()}
	if bloom.Union(filters[:3]...) != modelFilter(bitSet{1: true, 2: true, 3: true}) {
		t.Error("Union sees the room of its list")
	}
	if !slices.Equal(filters, []api.Bloom{single(1), single(2), single(3), full()}) {
		t.Error("Union writes into its list")
	}
	numbers := []int{9, 3, 3, 2047, 0, 5000}
	if _, e := bloom.Make(numbers[:5]); e != api.OK {
		t.Errorf("Make sees the room of its list: %d", e)
	}
	if _, e := bloom.Make(numbers); e != api.ErrArg {
		t.Errorf("Make(%v): %d", numbers, e)
	}
	if !slices.Equal(numbers, []int{9, 3, 3, 2047, 0, 5000}) {
		t.Errorf("Make writes into its list: %v", numbers)
	}
}

// P0.3: who writes over an answer, or behind it, changes no other one.
func TestAnswersApart(t *testing.T) {
	b := modelFilter(bitSet{1: true, 70: true, 2000: true})
	first, second := bloom.Bits(b), bloom.Bits(b)
	room := first[:cap(first)]
	for i := range room {
		room[i] = -5
	}
	if want := []int{1, 70, 2000}; !slices.Equal(second, want) || !slices.Equal(bloom.Bits(b), want) {
		t.Error("two answers of Bits share memory")
	}
	row := chance.Row(42)
	groups := anyGroups(&row, 130)
	want := modelMany(groups)
	filters, others := bloom.Many(groups), bloom.Many(groups)
	whole := filters[:cap(filters)]
	for i := range whole {
		whole[i] = full()
	}
	if !slices.Equal(others, want) || !slices.Equal(bloom.Many(groups), want) {
		t.Error("two answers of Many share memory")
	}
}

// P0.6: what one call is asked shows in no other.
func TestSameAgain(t *testing.T) {
	ask := func() [4]api.Bloom {
		made, _ := bloom.Make([]int{1, 2, 3})
		return [4]api.Bloom{made, bloom.Of([]byte("a"), []byte("b")), bloom.Add(single(4), []byte("c")), bloom.Union(single(5), single(6))}
	}
	want := ask()
	bloom.Make([]int{7, -1})
	bloom.Make([]int{8})
	bloom.Of([]byte("d"))
	bloom.Add(full(), []byte("e"))
	bloom.Union(full(), none)
	bloom.Many([][][]byte{{[]byte("f")}, {[]byte("g")}})
	if got := ask(); got != want {
		t.Errorf("%x, and then %x", want, got)
	}
}
