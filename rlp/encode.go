package rlp

import (
	"slices"

	"waybill/api"
)

// Encode tells an item's bytes.
func Encode(it api.Item) ([]byte, api.Errno) {
	size, e := Size(it)
	if e != api.OK {
		return nil, e
	}
	room := make([]byte, size)
	putItem(room, it)
	return room, api.OK
}

// putItem writes an item at a room's end and tells what is left of the room. So a list's head is written when its items are there, and no list is measured again.
func putItem(room []byte, it api.Item) []byte {
	if !it.List {
		return putText(room, it.Data)
	}
	left := room
	for _, inner := range slices.Backward(it.Items) {
		left = putItem(left, inner)
	}
	return putHead(left, true, len(room)-len(left))
}

// putText writes a text, with its head if it needs one.
func putText(room, text []byte) []byte {
	left := put(room, text)
	if isBare(text) {
		return left
	}
	return putHead(left, false, len(text))
}

// putHead writes the head of what holds so many bytes.
func putHead(room []byte, list bool, held int) []byte {
	var h [headMost]byte
	return put(room, withHead(h[:0], list, held))
}

// put writes bytes at a room's end and tells what is left of the room.
func put(room, b []byte) []byte {
	left := len(room) - len(b)
	copy(room[left:], b)
	return room[:left]
}
