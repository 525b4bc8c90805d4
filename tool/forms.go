package tool

import (
	"waybill/api"
	"waybill/hexa"
	"waybill/u256"
)

// value is a word, read as its form says; only the fields of that form count.
type value struct {
	word    string      // W
	data    []byte      // D, S
	hash    api.Hash    // H, K
	address api.Address // A
	number  api.U256    // N, K
	small   uint64      // U, I
}

const signatureBytes = 64

// anyNumber is how far a small letter among the forms is from the capital one: it stands for all words that are left, none perhaps, of the capital one's form.
const anyNumber = 'a' - 'A'

// read tells the values of a command's words by their forms, a letter each, or that they are not of these forms, too few or too many.
func read(forms string, words []string) ([]value, bool) {
	var values []value
	for _, form := range forms {
		count := 1
		if form >= 'a' {
			form, count = form-anyNumber, len(words)
		}
		if len(words) < count {
			return nil, false
		}
		for _, word := range words[:count] {
			v, ok := readOne(form, word)
			if !ok {
				return nil, false
			}
			values = append(values, v)
		}
		words = words[count:]
	}
	return values, len(words) == 0
}

// readOne tells the value of a word of the form, or that it is none.
func readOne(form rune, word string) (v value, ok bool) {
	var e api.Errno
	switch form {
	case 'D':
		v.data, e = hexa.ParseData(word)
	case 'S':
		v.data, e = hexa.ParseData(word)
		if len(v.data) != signatureBytes {
			e = api.ErrWord
		}
	case 'H':
		v.hash, e = hexa.ParseHash(word)
	case 'K':
		v.hash, e = hexa.ParseHash(word)
		v.number, _ = u256.Get(v.hash[:])
	case 'A':
		v.address, e = hexa.ParseAddress(word)
	case 'N':
		v.number, e = u256.Parse(word)
	case 'U':
		return readSmall(word, 64)
	case 'I':
		return readSmall(word, 31)
	case 'W':
		v.word = word
	}
	return v, e == api.OK
}

// readSmall reads a number of at most so many bits.
func readSmall(word string, bits int) (v value, ok bool) {
	number, e := u256.Parse(word)
	if e != api.OK || u256.Len(number) > bits {
		return v, false
	}
	v.small, _ = u256.Small(number)
	return v, true
}

// texts are the data of all values.
func texts(v []value) [][]byte {
	list := make([][]byte, len(v))
	for i := range v {
		list[i] = v[i].data
	}
	return list
}
