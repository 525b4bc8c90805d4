package nibble

import "cmp"

// Common tells with how many equal elements two rows begin.
func Common(a, b []byte) int { return common(a, b) }

// Compare tells which row comes first: -1, 0, 1.
func Compare(a, b []byte) int { return compare(a, b) }

func common[E cmp.Ordered](a, b []E) int {
	n := 0
	for n < len(a) && n < len(b) && a[n] == b[n] {
		n++
	}
	return n
}

// compare looks only behind what both begin with: there one of them ends, or the elements differ.
func compare[E cmp.Ordered](a, b []E) int {
	n := common(a, b)
	if n == len(a) || n == len(b) {
		return cmp.Compare(len(a), len(b))
	}
	return cmp.Compare(a[n], b[n])
}
