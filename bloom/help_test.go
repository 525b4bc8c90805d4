package bloom_test

import (
	"encoding/hex"
	"math/big"
	"slices"
	"testing"

	"waybill/api"
	"waybill/bloom"
	"waybill/chance"
	"waybill/keccak"
)

const size = 2048

var none api.Bloom

// unhex reads bytes in hexadecimal digits.
func unhex(s string) []byte {
	b, err := hex.DecodeString(s)
	if err != nil {
		panic("not digits: " + s)
	}
	return b
}

// The models follow the chapter's words. A model's filter is a set of numbers; digests are layer 2's, which has tests of its own.

type bitSet map[int]bool

// modelFilter lays the bits out through math/big: bit j has the weight 2^j of a number whose last byte is the lowest.
func modelFilter(s bitSet) api.Bloom {
	n := new(big.Int)
	for j := range s {
		n.SetBit(n, j, 1)
	}
	return api.Bloom(n.FillBytes(make([]byte, 256)))
}

func modelSet(b api.Bloom) bitSet {
	n, s := new(big.Int).SetBytes(b[:]), bitSet{}
	for j := range size {
		if n.Bit(j) == 1 {
			s[j] = true
		}
	}
	return s
}

func modelPlaces(text []byte) [3]int {
	digest := keccak.Sum(text)
	var places [3]int
	for i := range places {
		pair := new(big.Int).SetBytes(digest[2*i : 2*i+2])
		places[i] = int(pair.Int64()) % size
	}
	return places
}

func modelOf(texts ...[]byte) api.Bloom {
	s := bitSet{}
	for _, text := range texts {
		for _, place := range modelPlaces(text) {
			s[place] = true
		}
	}
	return modelFilter(s)
}

func modelHas(b api.Bloom, text []byte) bool {
	s, p := modelSet(b), modelPlaces(text)
	return s[p[0]] && s[p[1]] && s[p[2]]
}

func modelUnion(list ...api.Bloom) api.Bloom {
	s := bitSet{}
	for _, b := range list {
		for j := range modelSet(b) {
			s[j] = true
		}
	}
	return modelFilter(s)
}

func modelWithin(a, b api.Bloom) bool {
	s := modelSet(b)
	for j := range modelSet(a) {
		if !s[j] {
			return false
		}
	}
	return true
}

func modelBits(b api.Bloom) []int {
	var list []int
	for j := range modelSet(b) {
		list = append(list, j)
	}
	slices.Sort(list)
	return list
}

func modelMake(bits []int) (api.Bloom, api.Errno) {
	s := bitSet{}
	for _, j := range bits {
		if j < 0 || j > 2047 {
			return none, api.ErrArg
		}
		s[j] = true
	}
	return modelFilter(s), api.OK
}

// single tells the filter of one bit, without tells all bits but one.

func single(j int) api.Bloom { return modelFilter(bitSet{j: true}) }

func without(j int) api.Bloom {
	b := full()
	b[255-j/8] ^= 1 << (j % 8)
	return b
}

func full() api.Bloom {
	var b api.Bloom
	for i := range b {
		b[i] = 0xff
	}
	return b
}

// anyFilter tells a filter with few bits, about half of them, most of them, none or all.
func anyFilter(row *chance.Row) api.Bloom {
	switch row.Below(10) {
	case 0:
		return none
	case 1:
		return full()
	}
	s, n := bitSet{}, row.Below(size)>>row.Below(11)
	for range n {
		s[row.Below(size)] = true
	}
	b := modelFilter(s)
	if row.Below(3) == 0 {
		for i := range b {
			b[i] = ^b[i]
		}
	}
	return b
}

// anyTexts tells so many texts, of the lengths of addresses and topics among others, some of them twice.
func anyTexts(row *chance.Row, n int) [][]byte {
	texts := make([][]byte, n)
	for i := range texts {
		switch row.Below(4) {
		case 0:
			texts[i] = row.Text(20)
		case 1:
			texts[i] = row.Text(32)
		case 2:
			texts[i] = row.Text(row.Below(300))
		default:
			texts[i] = texts[row.Below(i+1)]
		}
	}
	return texts
}

// same tells a text of which two places are the same: the first two, the last two, or the outer two.
func same(t *testing.T, first, second int) []byte {
	t.Helper()
	row := chance.Row(99)
	for range 100000 {
		text := row.Text(20)
		if p := modelPlaces(text); p[first] == p[second] {
			return text
		}
	}
	t.Fatalf("no text has the places %d and %d the same", first, second)
	return nil
}

// The helpers themselves: an error in them would hide one in the program.
func TestHelpers(t *testing.T) {
	if modelFilter(bitSet{0: true})[255] != 1 || modelFilter(bitSet{2047: true})[0] != 0x80 || modelFilter(bitSet{8: true})[254] != 1 {
		t.Error("where a bit stands")
	}
	if len(modelSet(full())) != size || len(modelSet(none)) != 0 {
		t.Error("full, none")
	}
	for _, j := range []int{0, 7, 8, 1490, 2047} {
		if s := modelSet(without(j)); len(s) != size-1 || s[j] {
			t.Errorf("without bit %d there are %d", j, len(s))
		}
	}
	row := chance.Row(1)
	var few, most int
	for range 300 {
		b := anyFilter(&row)
		if modelFilter(modelSet(b)) != b {
			t.Fatalf("%x is not there and back", b)
		}
		if n := len(modelSet(b)); n > 0 && n < 20 {
			few++
		} else if n > size-100 && n < size {
			most++
		}
	}
	if few < 10 || most < 10 {
		t.Errorf("%d filters with few bits, %d with most", few, most)
	}
}

// checkText holds Places, Add, Of and Has of one text against their models (P10.1 to P10.3).
func checkText(t *testing.T, b api.Bloom, text []byte) {
	t.Helper()
	if got, want := bloom.Places(text), modelPlaces(text); got != want {
		t.Errorf("Places of %d bytes = %v, want %v", len(text), got, want)
	}
	if got, want := bloom.Add(b, text), modelUnion(b, modelOf(text)); got != want {
		t.Errorf("Add(%x, %d bytes) = %x, want %x", b, len(text), got, want)
	}
	if got, want := bloom.Of(text), modelOf(text); got != want {
		t.Errorf("Of of %d bytes = %x, want %x", len(text), got, want)
	}
	if got, want := bloom.Has(b, text), modelHas(b, text); got != want {
		t.Errorf("Has(%x, %d bytes) = %t", b, len(text), got)
	}
}
