package bloom

import "waybill/api"

const size = 2048 // bits of a filter

// Bits tells the numbers of the bits that are set, rising.
func Bits(b api.Bloom) []int {
	list := make([]int, 0, Count(b))
	for bit := range size {
		if isSet(&b, bit) {
			list = append(list, bit)
		}
	}
	return list
}

// Make tells the filter with these bits set.
func Make(bits []int) (api.Bloom, api.Errno) {
	var b api.Bloom
	for _, bit := range bits {
		if bit < 0 || bit >= size {
			return api.Bloom{}, api.ErrArg
		}
		set(&b, bit)
	}
	return b, api.OK
}

// spot tells where a bit stands: the filter is one great number, its highest byte first.
func spot(bit int) (at int, weight byte) { return size/8 - 1 - bit/8, 1 << (bit % 8) }

func set(b *api.Bloom, bit int) {
	at, weight := spot(bit)
	b[at] |= weight
}

func isSet(b *api.Bloom, bit int) bool {
	at, weight := spot(bit)
	return b[at]&weight != 0
}
