package bloom_test

import (
	"bytes"
	"slices"
	"strconv"
	"testing"

	"waybill/api"
	"waybill/bloom"
	"waybill/chance"
	"waybill/keccak"
)

// P10.1, P10.2, P10.5: the chapter's first example.
func TestExampleOfNoBytes(t *testing.T) {
	want := []int{1490, 1537, 1783}
	for _, nothing := range [][]byte{nil, {}} {
		if got := bloom.Places(nothing); !slices.Equal(got[:], want) {
			t.Errorf("Places of no bytes = %v", got)
		}
		if got := bloom.Bits(bloom.Of(nothing)); !slices.Equal(got, want) {
			t.Errorf("Of of no bytes has the bits %v", got)
		}
		if !bloom.Has(bloom.Of(nothing), nothing) || bloom.Add(none, nothing) != bloom.Of(nothing) {
			t.Error("Has or Add of no bytes")
		}
	}
	if bloom.Of() != none || bloom.Of([][]byte{}...) != none || bloom.Of([][]byte(nil)...) != none {
		t.Error("Of without a text has a bit")
	}
}

// P10.1, P10.2: filters that other programs' tests know.
func TestKnownFilters(t *testing.T) {
	for digits, want := range map[string][3]int{
		"0f572e5295c57f15886f9b263e2f6d2d6c7b5ec6": {1323, 431, 1319},
		"095e7baea6a6c7c4c2dfeb977efac326af552d87": {1980, 698, 222},
	} {
		if got := bloom.Places(unhex(digits)); got != want {
			t.Errorf("Places(%s) = %v, want %v", digits, got, want)
		}
	}
	var texts [][]byte
	for i := range 100 {
		texts = append(texts, []byte("xxxxxxxxxx data "+strconv.Itoa(i)+" yyyyyyyyyyyyyy"))
	}
	filter := bloom.Of(texts...)
	if got := keccak.Sum(filter[:]); got != api.Hash(unhex("c8d3ca65cdb4874300a9e39475508f23ed6da09fdbc487f89a2dcf50b09eb263")) {
		t.Errorf("the filter of 100 texts has the digest %x", got)
	}
	filter = bloom.Of([]byte("testtest"), []byte("test"), []byte("hallo"), []byte("other"))
	for text, want := range map[string]bool{"testtest": true, "test": true, "hallo": true, "other": true, "tes": false, "lo": false} {
		if bloom.Has(filter, []byte(text)) != want {
			t.Errorf("Has of %q is not %t", text, want)
		}
	}
}

// P10.1 to P10.3: texts of all lengths, against filters with few bits and many.
func TestTexts(t *testing.T) {
	row := chance.Row(2)
	for n := range 300 {
		checkText(t, anyFilter(&row), row.Text(n))
	}
	for range 1000 {
		checkText(t, anyFilter(&row), row.Text(20))
	}
}

// P10.1: every place from 0 to 2047 comes, as each of the three.
func TestPlacesReachAll(t *testing.T) {
	row := chance.Row(3)
	var seen [3][size]int
	for range 40000 {
		text := row.Text(8)
		got := bloom.Places(text)
		if got != modelPlaces(text) {
			t.Fatalf("Places(%x) = %v", text, got)
		}
		for i, place := range got {
			seen[i][place]++
		}
	}
	for i := range seen {
		if slices.Contains(seen[i][:], 0) {
			t.Errorf("some place never comes as number %d", i)
		}
	}
}

// P10.1 to P10.3, P10.5: two places of a text may be the same; both are told, and its filter has two bits.
func TestSamePlaces(t *testing.T) {
	for _, c := range [][2]int{{0, 1}, {1, 2}, {0, 2}} {
		text := same(t, c[0], c[1])
		checkText(t, none, text)
		checkText(t, full(), text)
		p, filter := bloom.Places(text), bloom.Of(text)
		if p[c[0]] != p[c[1]] || bloom.Count(filter) != 2 || !bloom.Has(filter, text) {
			t.Errorf("Places(%x) = %v, %d bits", text, p, bloom.Count(filter))
		}
	}
}

// P10.1, P10.2, P0.7: no length is refused.
func TestLongTexts(t *testing.T) {
	for _, n := range []int{api.MaxInput, api.MaxInput + 1} {
		text := bytes.Repeat([]byte{0x5b}, n)
		if bloom.Places(text) != modelPlaces(text) {
			t.Errorf("Places of %d bytes", n)
		}
		if !bloom.Has(bloom.Of(text), text) {
			t.Errorf("the filter of %d bytes misses them", n)
		}
	}
}

// P10.2: Add leaves all other bits, and what was set stays set.
func TestAdd(t *testing.T) {
	row := chance.Row(4)
	for range 200 {
		b, text := anyFilter(&row), row.Text(row.Below(64))
		before, p := b, bloom.Places(text)
		got := bloom.Add(b, text)
		for j := range size {
			want := bit(before, j) || j == p[0] || j == p[1] || j == p[2]
			if bit(got, j) != want {
				t.Fatalf("Add(%x, %x): bit %d", before, text, j)
			}
		}
		if b != before || bloom.Add(got, text) != got {
			t.Fatal("Add writes into its filter, or adds more the second time")
		}
	}
}

// bit tells bit j by the chapter's words.
func bit(b api.Bloom, j int) bool { return b[255-j/8]>>(j%8)&1 == 1 }

// P10.2: filters of no text to very many; the order and doubles count for nothing; adding one by one is the same.
func TestOf(t *testing.T) {
	row := chance.Row(5)
	for _, n := range []int{0, 1, 2, 3, 4, 5, 10, 50, 200, 1000, 20000} {
		texts := anyTexts(&row, n)
		want := modelOf(texts...)
		if got := bloom.Of(texts...); got != want {
			t.Errorf("Of of %d texts = %x, want %x", n, got, want)
		}
		var step api.Bloom
		for _, text := range texts {
			step = bloom.Add(step, text)
		}
		turned := slices.Clone(texts)
		slices.Reverse(turned)
		if step != want || bloom.Of(turned...) != want || bloom.Of(slices.Concat(turned, texts)...) != want {
			t.Errorf("%d texts one by one, in another order, or twice", n)
		}
		cut := row.Below(n + 1)
		if bloom.Union(bloom.Of(texts[:cut]...), bloom.Of(texts[cut:]...)) != want {
			t.Errorf("%d texts in two parts", n)
		}
	}
}

// P10.2: where texts are cut counts: each one is a text of its own.
func TestOfIsNotOfJoined(t *testing.T) {
	if bloom.Of([]byte("ab")) == bloom.Of([]byte("a"), []byte("b")) || bloom.Of([]byte("ab"), nil) == bloom.Of([]byte("ab")) {
		t.Error("texts are put one behind the other")
	}
}

// P10.3: what was put in is never missed.
func TestHasNeverMisses(t *testing.T) {
	row := chance.Row(6)
	for _, n := range []int{1, 2, 5, 30, 300} {
		texts := anyTexts(&row, n)
		filter := bloom.Of(texts...)
		for _, text := range texts {
			if !bloom.Has(filter, text) || !bloom.Has(bloom.Union(filter, anyFilter(&row)), text) {
				t.Errorf("a filter of %d texts misses %x", n, text)
			}
		}
	}
}

// P10.3: all three bits count, and no other: with one of them missing the text isn't there, with nothing else it is.
func TestHasEachPlace(t *testing.T) {
	row := chance.Row(7)
	for range 100 {
		text := row.Text(row.Below(40))
		if !bloom.Has(full(), text) || bloom.Has(none, text) {
			t.Fatalf("Has(all or none, %x)", text)
		}
		own := bloom.Of(text)
		for _, place := range bloom.Places(text) {
			lacking := modelSet(own)
			delete(lacking, place)
			if bloom.Has(without(place), text) || bloom.Has(modelFilter(lacking), text) {
				t.Fatalf("Has of %x without its bit %d", text, place)
			}
		}
		if !bloom.Has(own, text) {
			t.Fatalf("Has(Of(%x), the same)", text)
		}
	}
}

// P10.3: texts that were not put in: mostly missed, by chance taken, always as the model says.
func TestHasOthers(t *testing.T) {
	row := chance.Row(8)
	var taken, missed int
	for range 60 {
		filter := bloom.Of(anyTexts(&row, 300)...)
		for range 20 {
			text := row.Text(33)
			got := bloom.Has(filter, text)
			if got != modelHas(filter, text) {
				t.Fatalf("Has(%x, %x) = %t", filter, text, got)
			}
			if got {
				taken++
			} else {
				missed++
			}
		}
	}
	if taken == 0 || missed == 0 {
		t.Errorf("%d taken, %d missed", taken, missed)
	}
}
