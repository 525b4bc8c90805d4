package bloom_test

import (
	"runtime"
	"slices"
	"testing"

	"waybill/api"
	"waybill/bloom"
	"waybill/chance"
)

func anyGroups(row *chance.Row, n int) [][][]byte {
	groups := make([][][]byte, n)
	for i := range groups {
		groups[i] = anyTexts(row, row.Below(6))
	}
	return groups
}

func modelMany(groups [][][]byte) []api.Bloom {
	var filters []api.Bloom
	for _, texts := range groups {
		filters = append(filters, modelOf(texts...))
	}
	return filters
}

func checkMany(t *testing.T, groups [][][]byte) {
	t.Helper()
	if got := bloom.Many(groups); !slices.Equal(got, modelMany(groups)) {
		t.Errorf("Many of %d groups: %d filters, or one is another", len(groups), len(got))
	}
}

// P10.6: the chapter's fourth example.
func TestExampleOfMany(t *testing.T) {
	for _, nothing := range [][][][]byte{nil, {}} {
		if got := bloom.Many(nothing); len(got) != 0 {
			t.Errorf("Many of nothing = %x", got)
		}
	}
	for _, groups := range [][][][]byte{{{}}, {nil}} {
		if got := bloom.Many(groups); !slices.Equal(got, []api.Bloom{none}) {
			t.Errorf("Many of a group without texts = %x", got)
		}
	}
}

// P10.6: as many groups as a batch may end at, and many more.
func TestMany(t *testing.T) {
	row := chance.Row(31)
	for n := range 200 {
		checkMany(t, anyGroups(&row, n))
	}
	for _, n := range []int{255, 256, 257, 1000, 5000} {
		checkMany(t, anyGroups(&row, n))
	}
}

// P10.6: groups without texts, of texts without bytes, the same group or text in several places.
func TestManyOddGroups(t *testing.T) {
	a, b := []byte("a"), []byte("b")
	group := [][]byte{a, b, a}
	checkMany(t, [][][]byte{nil, {}, {nil}, {{}}, {nil, {}}, group, group, {a}, {b}, group[:1], group[1:], nil})
}

// P10.6, P0.6, P0.17: the same however the goroutines run: long groups ahead of short ones, one processor or many, and when many ask at one time.
func TestManyAnyOrder(t *testing.T) {
	row := chance.Row(32)
	var groups [][][]byte
	for i := range 150 {
		groups = append(groups, anyTexts(&row, 150-i))
	}
	want := modelMany(groups)
	before := runtime.GOMAXPROCS(0)
	defer runtime.GOMAXPROCS(before)
	for _, processors := range []int{1, 2, before} {
		runtime.GOMAXPROCS(processors)
		done := make(chan bool)
		for i := range 8 {
			go func() { done <- slices.Equal(bloom.Many(groups[i:]), want[i:]) }()
		}
		for range 8 {
			if !<-done {
				t.Errorf("other filters with %d processors", processors)
			}
		}
	}
}
