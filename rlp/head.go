package rlp

import (
	"math/bits"

	"waybill/api"
)

const (
	textHead  = 0x80 // the first of a text's heads; what is below stands for itself
	listHead  = 0xc0 // the first of a list's heads
	heads     = 0x40 // how many there are of each
	shortMost = 55   // the greatest length that the first byte tells by itself
	headMost  = 9    // bytes of the longest head
)

// head is what stands ahead of an item's text or of its items.
type head struct {
	list bool
	size int // its own bytes: none ahead of a single byte below 80
	held int // how many bytes the item holds
}

// whole tells how many bytes the item has, head and all.
func (h head) whole() int { return h.size + h.held }

// readHead reads the head of the item at a room's front, and answers the errors 1 to 4 of P7.3.
func readHead(room []byte) (head, api.Errno) {
	if len(room) == 0 {
		return head{}, api.ErrRlpEnd
	}
	first := room[0]
	if first < textHead {
		return head{held: 1}, api.OK
	}
	h := head{list: first >= listHead, size: 1}
	held := uint64(first % heads)
	if held > shortMost {
		width := int(held - shortMost)
		var e api.Errno
		if held, e = readLength(room[1:], width); e != api.OK {
			return head{}, e
		}
		h.size += width
	}
	if held > uint64(len(room)-h.size) {
		return head{}, api.ErrRlpEnd
	}
	h.held = int(held)
	if !h.list && isBare(room[h.size:h.whole()]) {
		return head{}, api.ErrRlpByte
	}
	return h, api.OK
}

// readLength reads a length of 1 to 8 bytes. It may be beyond all ints: only against a room can it be told whether it is one.
func readLength(room []byte, width int) (uint64, api.Errno) {
	if len(room) < width {
		return 0, api.ErrRlpEnd
	}
	var length uint64
	for _, b := range room[:width] {
		length = length<<8 | uint64(b)
	}
	if room[0] == 0 || length <= shortMost {
		return 0, api.ErrRlpSize
	}
	return length, api.OK
}

// withHead lays the head of what holds so many bytes behind b.
func withHead(b []byte, list bool, held int) []byte {
	var first byte = textHead
	if list {
		first = listHead
	}
	if held <= shortMost {
		return append(b, first+byte(held))
	}
	width := lengthSize(held)
	b = append(b, first+shortMost+byte(width))
	for i := range width {
		b = append(b, byte(held>>(8*(width-1-i))))
	}
	return b
}

// headSize tells how many bytes the head of what holds so many bytes has.
func headSize(held int) int {
	if held <= shortMost {
		return 1
	}
	return 1 + lengthSize(held)
}

// lengthSize tells how many bytes a length has without zero bytes ahead.
func lengthSize(length int) int { return (bits.Len(uint(length)) + 7) / 8 }

// textSize tells how many bytes a text has as an item.
func textSize(text []byte) int {
	if isBare(text) {
		return 1
	}
	return headSize(len(text)) + len(text)
}

// isBare tells whether a text stands without a head.
func isBare(text []byte) bool { return len(text) == 1 && text[0] < textHead }
