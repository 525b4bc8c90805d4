package access

import (
	"waybill/api"
	"waybill/rlp"
)

// fitting tells an item again, unless it takes more than MaxInput bytes.
func fitting(it api.Item) (api.Item, api.Errno) {
	if e := rlp.Check(it); e != api.OK {
		return api.Item{}, e
	}
	return it, api.OK
}

// readAll reads all items of a list by one function; false: it is no list, or one of them is not what is wanted.
func readAll[T any](it api.Item, read func(api.Item) (T, bool)) ([]T, bool) {
	if !isList(it) {
		return nil, false
	}
	var all []T
	for _, inner := range it.Items {
		one, ok := read(inner)
		if !ok {
			return nil, false
		}
		all = append(all, one)
	}
	return all, true
}

// isList looks at the item itself; rlp.GetList would copy all that stands in it.
func isList(it api.Item) bool { return it.List && len(it.Data) == 0 }

func readAddress(it api.Item) (api.Address, bool) {
	b, e := rlp.GetFixed(it, len(api.Address{}))
	if e != api.OK {
		return api.Address{}, false
	}
	return api.Address(b), true
}
