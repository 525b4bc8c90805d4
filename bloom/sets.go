package bloom

import (
	"math/bits"

	"waybill/api"
)

// Union tells the filter of all bits that one of the filters has.
func Union(list ...api.Bloom) api.Bloom {
	var all api.Bloom
	for _, b := range list {
		for i, v := range b {
			all[i] |= v
		}
	}
	return all
}

// Within tells whether all bits of a are set in b.
func Within(a, b api.Bloom) bool {
	for i, v := range a {
		if v&^b[i] != 0 {
			return false
		}
	}
	return true
}

// Count tells how many bits are set.
func Count(b api.Bloom) int {
	n := 0
	for _, v := range b {
		n += bits.OnesCount8(v)
	}
	return n
}
