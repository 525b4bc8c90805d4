package rlp

import (
	"bytes"

	"waybill/api"
	"waybill/u256"
)

const (
	numberMost = 32 // bytes of the longest number
	smallMost  = 8  // bytes of the longest one of 64 bits
)

// Text tells a text as an item.
func Text(b []byte) api.Item { return api.Item{Data: bytes.Clone(b)} }

// Number tells a number as an item.
func Number(v api.U256) api.Item { return api.Item{Data: u256.Bytes(v)} }

// Small tells a number of 64 bits as an item.
func Small(v uint64) api.Item { return Number(u256.From(v)) }

// List tells a list as an item.
func List(items ...api.Item) api.Item { return api.Item{List: true, Items: copies(items)} }

// copies tells the items again, in memory of their own down to the last one. They are as they were, odd ones too.
func copies(items []api.Item) []api.Item {
	if len(items) == 0 {
		return nil
	}
	all := make([]api.Item, len(items))
	for i, it := range items {
		all[i] = api.Item{List: it.List, Data: bytes.Clone(it.Data), Items: copies(it.Items)}
	}
	return all
}

// GetText tells the text that an item is.
func GetText(it api.Item) ([]byte, api.Errno) {
	if e := checkKind(it, false); e != api.OK {
		return nil, e
	}
	return bytes.Clone(it.Data), api.OK
}

// checkKind looks whether an item is a list, or a text, as it is wanted; not into what it holds.
func checkKind(it api.Item, list bool) api.Errno {
	switch {
	case isOdd(it):
		return api.ErrRlpItem
	case it.List != list:
		return api.ErrRlpKind
	}
	return api.OK
}

// GetNumber tells the number that an item is.
func GetNumber(it api.Item) (api.U256, api.Errno) { return getNumber(it, numberMost) }

// GetSmall tells the number of 64 bits that an item is.
func GetSmall(it api.Item) (uint64, api.Errno) {
	v, e := getNumber(it, smallMost)
	return v[0], e
}

// getNumber tells the number of at most so many bytes that an item is.
func getNumber(it api.Item, most int) (api.U256, api.Errno) {
	if e := checkKind(it, false); e != api.OK {
		return api.U256{}, e
	}
	if len(it.Data) > most {
		return api.U256{}, api.ErrRlpWide
	}
	v, e := u256.Strict(it.Data)
	if e != api.OK { // it is not too long, so there are zeros ahead
		return api.U256{}, api.ErrRlpZero
	}
	return v, api.OK
}

// GetFixed tells the text of n bytes that an item is.
func GetFixed(it api.Item, n int) ([]byte, api.Errno) {
	if n < 0 {
		return nil, api.ErrArg
	}
	b, e := GetText(it)
	if e != api.OK {
		return nil, e
	}
	if len(b) != n {
		return nil, api.ErrRlpWide
	}
	return b, api.OK
}

// GetList tells the items of the list that an item is.
func GetList(it api.Item) ([]api.Item, api.Errno) {
	if e := checkKind(it, true); e != api.OK {
		return nil, e
	}
	return copies(it.Items), api.OK
}
