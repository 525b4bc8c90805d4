package header_test

import (
	"math/big"
	"testing"

	"waybill/chance"
	"waybill/header"
)

// modelBounds tells the least and the greatest number below 2^64 that may follow.
func modelBounds(limit uint64) (low, high uint64) {
	l := whole(limit)
	d := new(big.Int).Quo(l, big.NewInt(1024))
	first := new(big.Int).Sub(l, d)
	first.Add(first, big.NewInt(1)) // above limit - d
	if first.Cmp(big.NewInt(5000)) < 0 {
		first.SetInt64(5000)
	}
	last := new(big.Int).Add(l, d)
	last.Sub(last, big.NewInt(1)) // below limit + d
	if last.BitLen() > 64 {
		last.SetUint64(most)
	}
	if first.Cmp(last) > 0 {
		return 0, 0
	}
	return first.Uint64(), last.Uint64()
}

// checkBounds holds Bounds against its model, and both ends against the chapter's words.
func checkBounds(t *testing.T, limit uint64) {
	t.Helper()
	low, high := header.Bounds(limit)
	if a, b := modelBounds(limit); low != a || high != b {
		t.Errorf("Bounds(%d) = %d, %d, want %d, %d", limit, low, high, a, b)
	}
	if low == 0 && high == 0 {
		for _, x := range []uint64{0, 1, limit - 1, limit, limit + 1, 4999, 5000, 5001, most} {
			if modelFollows(x, whole(limit)) {
				t.Errorf("%d may follow %d", x, limit)
			}
		}
		return
	}
	l := whole(limit)
	if !modelFollows(low, l) || !modelFollows(high, l) || modelFollows(low-1, l) || high < most && modelFollows(high+1, l) {
		t.Errorf("Bounds(%d) = %d, %d", limit, low, high)
	}
}

// P19.5: the chapter's third example.
func TestExamplesOfBounds(t *testing.T) {
	for _, c := range [][3]uint64{{30000000, 29970705, 30029295}, {5000, 5000, 5003}, {4999, 5000, 5002}, {1023, 0, 0}, {0, 0, 0}} {
		if low, high := header.Bounds(c[0]); low != c[1] || high != c[2] {
			t.Errorf("Bounds(%d) = %d, %d, want %d, %d", c[0], low, high, c[1], c[2])
		}
	}
	if low, high := header.Bounds(most); low != most-(1<<54-1)+1 || high != most {
		t.Errorf("Bounds(2^64 - 1) = %d, %d", low, high)
	}
}

// P19.5: each small limit, with all numbers that may follow gone through.
func TestSmallBounds(t *testing.T) {
	for limit := range 8000 {
		first, last := 0, 0
		for x := range 9000 {
			if d := limit / 1024; x >= 5000 && x < limit+d && x > limit-d {
				if first == 0 {
					first = x
				}
				last = x
			}
		}
		if low, high := header.Bounds(uint64(limit)); low != uint64(first) || high != uint64(last) {
			t.Errorf("Bounds(%d) = %d, %d, want %d, %d", limit, low, high, first, last)
		}
		checkBounds(t, uint64(limit))
	}
}

// P19.5: around each power of two, around each multiple of 1024 near some of them, near 2^64, by chance.
func TestBounds(t *testing.T) {
	for shift := range 65 {
		for off := range uint64(40) {
			checkBounds(t, 1<<shift+off)
			checkBounds(t, 1<<shift-off)
			checkBounds(t, 1<<shift+off*1024)
			checkBounds(t, 1<<shift-off*1024-1)
		}
	}
	// the first limit at which limit and d reach 2^64
	edge := new(big.Int).Lsh(big.NewInt(1), 74)
	edge.Quo(edge, big.NewInt(1025))
	for off := range uint64(5000) {
		checkBounds(t, edge.Uint64()-2500+off)
		checkBounds(t, most-off)
	}
	row := chance.Row(1920)
	for range 20000 {
		checkBounds(t, anySmall(&row))
	}
	low, high, saturated := uint64(0), uint64(most), 0
	for low < high { // the last one that does not end with 2^64 - 1
		mid := low + (high-low)/2 + 1
		if _, end := header.Bounds(mid); end < most {
			low = mid
		} else {
			high = mid - 1
			saturated++
		}
	}
	checkBounds(t, low)
	checkBounds(t, low+1)
	if saturated == 0 {
		t.Error("none ends with 2^64 - 1")
	}
}
