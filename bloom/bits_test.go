package bloom_test

import (
	"math"
	"slices"
	"testing"

	"waybill/api"
	"waybill/bloom"
	"waybill/chance"
)

// checkMake holds Make against its model (P10.5, P0.2) and tells its error.
func checkMake(t *testing.T, list []int) api.Errno {
	t.Helper()
	want, wantE := modelMake(list)
	if got, e := bloom.Make(list); got != want || e != wantE {
		t.Errorf("Make(%v) = %x, %d, want %x, %d", list, got, e, want, wantE)
	}
	return wantE
}

// checkFilter holds Bits and Count against their models, and Make against Bits (P10.5).
func checkFilter(t *testing.T, b api.Bloom) {
	t.Helper()
	want := modelBits(b)
	if got := bloom.Bits(b); !slices.Equal(got, want) {
		t.Errorf("Bits(%x) = %v, want %v", b, got, want)
	}
	if got := bloom.Count(b); got != len(want) {
		t.Errorf("Count(%x) = %d, want %d", b, got, len(want))
	}
	if back, e := bloom.Make(bloom.Bits(b)); back != b || e != api.OK {
		t.Errorf("Make(Bits(%x)) = %x, %d", b, back, e)
	}
}

// P10.5: the chapter's second example.
func TestExampleOfMake(t *testing.T) {
	zero, e := bloom.Make([]int{0})
	if want := (api.Bloom{255: 1}); zero != want || e != api.OK {
		t.Errorf("Make([0]) = %x, %d", zero, e)
	}
	last, e := bloom.Make([]int{2047})
	if want := (api.Bloom{0: 0x80}); last != want || e != api.OK {
		t.Errorf("Make([2047]) = %x, %d", last, e)
	}
	for _, list := range [][]int{{2048}, {-1}} {
		if got, e := bloom.Make(list); got != none || e != api.ErrArg {
			t.Errorf("Make(%v) = %x, %d", list, got, e)
		}
	}
	if twice, e := bloom.Make([]int{5, 5}); bloom.Count(twice) != 1 || !slices.Equal(bloom.Bits(twice), []int{5}) || e != api.OK {
		t.Errorf("Make([5 5]) = %x, %d", twice, e)
	}
}

// P10.5: no number at all is a filter without a bit.
func TestMakeOfNothing(t *testing.T) {
	for _, list := range [][]int{nil, {}} {
		if got, e := bloom.Make(list); got != none || e != api.OK {
			t.Errorf("Make of nothing = %x, %d", got, e)
		}
	}
	if len(bloom.Bits(none)) != 0 || bloom.Count(none) != 0 {
		t.Error("the filter without a bit has some")
	}
}

// P10.5: each bit alone, and all but each one.
func TestEachBit(t *testing.T) {
	for j := range size {
		got, e := bloom.Make([]int{j})
		if got != single(j) || e != api.OK || !bit(got, j) {
			t.Errorf("Make([%d]) = %x, %d", j, got, e)
		}
		if l := bloom.Bits(got); !slices.Equal(l, []int{j}) || bloom.Count(got) != 1 {
			t.Errorf("Bits of bit %d alone: %v, Count %d", j, l, bloom.Count(got))
		}
		if l := bloom.Bits(without(j)); len(l) != size-1 || slices.Contains(l, j) || bloom.Count(without(j)) != size-1 {
			t.Errorf("Bits of all but bit %d: %d of them", j, len(l))
		}
	}
}

// P10.5: filters of all kinds.
func TestFilters(t *testing.T) {
	row := chance.Row(11)
	checkFilter(t, none)
	checkFilter(t, full())
	for range 300 {
		b := anyFilter(&row)
		checkFilter(t, b)
		if l := bloom.Bits(b); !slices.IsSorted(l) {
			t.Errorf("Bits(%x) do not rise", b)
		}
	}
	for v := range 256 { // every byte, at every place
		var b api.Bloom
		for i := range b {
			b[i] = byte(v + i)
		}
		checkFilter(t, b)
	}
}

// P10.5: lists in any order, with doubles; of more numbers than there are bits.
func TestMake(t *testing.T) {
	row := chance.Row(12)
	for n := range 200 {
		list := make([]int, n)
		for i := range list {
			list[i] = row.Below(size) >> row.Below(12)
		}
		if e := checkMake(t, list); e != api.OK {
			t.Errorf("the model of Make(%v): %d", list, e)
		}
	}
	var all []int
	for range 3 {
		for j := range size {
			all = append(all, size-1-j)
		}
	}
	if got, e := bloom.Make(all); got != full() || e != api.OK {
		t.Errorf("Make of all bits thrice = %x, %d", got, e)
	}
}

// P10.5, P0.2: one number outside 0 to 2047, wherever it stands, and the answer is ErrArg and no bit.
func TestMakeRefuses(t *testing.T) {
	for _, wrong := range []int{-1, -2, -7, -8, -9, -2047, -2048, -2049, 2048, 2049, 2055, 2056, 4095, 4096, 65536, math.MaxInt32, math.MinInt32, 1 << 32, 1<<32 + 5, -1 << 32, math.MaxInt, math.MaxInt - 1, math.MinInt, math.MinInt + 1} {
		for _, list := range [][]int{{wrong}, {wrong, 1, 2}, {1, wrong, 2}, {1, 2, wrong}, {0, 2047, wrong, wrong}, {-1, wrong}, {wrong, 2048}} {
			if e := checkMake(t, list); e != api.ErrArg {
				t.Errorf("the model of Make(%v): %d", list, e)
			}
		}
	}
}
