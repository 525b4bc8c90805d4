package message

import (
	"waybill/abi"
	"waybill/api"
	"waybill/keccak"
)

// mostDeep: a value that is deeper is taken to have no end, as one that holds itself has none. What the limits of the whole let in is not so deep.
const mostDeep = 1 << 17

// word tells the 32 bytes that stand for a value, and whether it is one of its type.
func (b *book) word(t shape, v api.Value, deep int) (api.Hash, bool) {
	switch {
	case len(t.sizes) > 0, t.isStruct:
		if deep == mostDeep || v.Num != (api.U256{}) || len(v.Data) > 0 || !b.holds(t, len(v.Items)) {
			return api.Hash{}, false
		}
		var words []byte
		for i, item := range v.Items {
			word, ok := b.word(b.part(t, i), item, deep+1)
			if !ok {
				return api.Hash{}, false
			}
			words = append(words, word[:]...)
		}
		return keccak.Sum(b.ahead(t), words), true
	case t.base == "bytes", t.base == "string":
		if abi.Check(t.base, v) != api.OK {
			return api.Hash{}, false
		}
		return keccak.Sum(v.Data), true
	}
	row, e := abi.Encode([]string{t.base}, []api.Value{v})
	if e != api.OK {
		return api.Hash{}, false
	}
	return api.Hash(row), true
}

// holds tells whether a list or a struct may have n values.
func (b *book) holds(t shape, n int) bool {
	if last := len(t.sizes) - 1; last >= 0 {
		return t.sizes[last] == 0 || t.sizes[last] == n
	}
	return len(b.members(t.base)) == n
}

// part tells the type of the value with the number i in a list or a struct.
func (b *book) part(t shape, i int) shape {
	if last := len(t.sizes) - 1; last >= 0 {
		t.sizes = t.sizes[:last]
		return t
	}
	return b.members(t.base)[i]
}

// ahead tells what is hashed ahead of the words of a list or a struct.
func (b *book) ahead(t shape) []byte {
	if len(t.sizes) > 0 {
		return nil
	}
	digest := b.typeHash(t.base)
	return digest[:]
}
