package rlp

import (
	"bytes"

	"waybill/api"
)

// Split takes the first item off: whether it is a list, what it holds, what stands behind it.
func Split(b []byte) (list bool, payload, rest []byte, e api.Errno) {
	h, e := firstHead(b)
	if e != api.OK {
		return false, nil, nil, e
	}
	return h.list, bytes.Clone(b[h.size:h.whole()]), bytes.Clone(b[h.whole():]), api.OK
}

// firstHead reads the head of a whole text's first item.
func firstHead(b []byte) (head, api.Errno) {
	if len(b) > api.MaxInput {
		return head{}, api.ErrLong
	}
	return readHead(b)
}

// Parts tells the bytes of the items of the one list that bytes are.
func Parts(b []byte) ([][]byte, api.Errno) {
	h, e := firstHead(b)
	switch {
	case e != api.OK:
		return nil, e
	case !h.list:
		return nil, api.ErrRlpKind
	case h.whole() < len(b):
		return nil, api.ErrRlpRest
	}
	return cut(b[h.size:])
}

// cut tells the bytes of each of the items that stand one behind the other.
func cut(b []byte) ([][]byte, api.Errno) {
	var parts [][]byte
	for len(b) > 0 {
		h, e := readHead(b)
		if e != api.OK {
			return nil, e
		}
		parts = append(parts, bytes.Clone(b[:h.whole()]))
		b = b[h.whole():]
	}
	return parts, api.OK
}

// Join tells the bytes of the list of items whose bytes are given.
func Join(parts ...[]byte) ([]byte, api.Errno) {
	held := 0
	for _, part := range parts {
		held += len(part)
	}
	size := headSize(held) + held
	if size > api.MaxInput {
		return nil, api.ErrLong
	}
	b := withHead(make([]byte, 0, size), true, held)
	for _, part := range parts {
		b = append(b, part...)
	}
	return b, api.OK
}
