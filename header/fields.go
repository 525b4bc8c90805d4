package header

import (
	"waybill/api"
	"waybill/rlp"
	"waybill/u256"
)

// The fields' numbers, in the order in which they stand on the wire.
const (
	fieldParent = iota
	fieldUncles
	fieldCoinbase
	fieldState
	fieldTxRoot
	fieldReceiptRoot
	fieldBloom
	fieldDifficulty
	fieldNumber
	fieldLimit
	fieldUsed
	fieldTime
	fieldExtra
	fieldMix
	fieldNonce
	fieldBaseFee
	fieldWithdrawals
	fieldBlobUsed
	fieldBlobExcess
	fieldBeacon
	fieldRequests
	fieldCount // how many there are
)

// The widths of fields that have no fixed one.
const (
	number = -1 - iota // a number
	small              // a number below 2^64
	extra              // a text of at most MaxExtra bytes
)

// widths are those of the fields that each tail, from 0 on, puts behind the fields of the tails below it. Above 0 it is a text's length.
var widths = [5][]int{
	{32, 32, 20, 32, 32, 32, 256, number, small, small, small, small, extra, 32, 8},
	{number},
	{32},
	{small, small, 32},
	{32},
}

// fieldsOf tells how many fields a header with a tail has.
func fieldsOf(tail int) int {
	count := 0
	for i := range tail + 1 {
		count += len(widths[i])
	}
	return count
}

// tailOf tells the tail with which a header has so many fields, and whether there is one.
func tailOf(count int) (int, bool) {
	for tail := range widths {
		if fieldsOf(tail) == count {
			return tail, true
		}
	}
	return 0, false
}

// cell is what a field holds: a text or, of a field that is a number, that.
type cell struct {
	text   []byte
	number api.U256
}

func isZero(c cell) bool {
	for _, b := range c.text {
		if b != 0 {
			return false
		}
	}
	return c.number == api.U256{}
}

// itemsOf makes the items of the fields that a header's tail has.
func itemsOf(h api.Header) []api.Item {
	cells := cellsOf(h)
	var items []api.Item
	for tail := range h.Tail + 1 {
		for _, width := range widths[tail] {
			items = append(items, itemOf(cells[len(items)], width))
		}
	}
	return items
}

func itemOf(c cell, width int) api.Item {
	if width == number || width == small {
		return rlp.Number(c.number)
	}
	return rlp.Text(c.text)
}

// read reads the fields that items are, as far as there are items: cells of other fields are zero.
func read(items []api.Item) (cells [fieldCount]cell, e api.Errno) {
	next := 0
reading:
	for _, row := range widths {
		for _, width := range row {
			if next == len(items) {
				break reading
			}
			if cells[next], e = readItem(items[next], width); e != api.OK {
				break reading
			}
			next++
		}
	}
	return cells, e
}

func readItem(it api.Item, width int) (c cell, e api.Errno) {
	switch width {
	case number:
		c.number, e = rlp.GetNumber(it)
	case small:
		var v uint64
		v, e = rlp.GetSmall(it)
		c.number = u256.From(v)
	case extra:
		c.text, e = rlp.GetText(it)
		if e == api.OK && len(c.text) > api.MaxExtra {
			e = api.ErrHdExtra
		}
	default:
		c.text, e = rlp.GetFixed(it, width)
	}
	return c, e
}

// cellsOf tells what all fields of a header hold, whatever its tail.
func cellsOf(h api.Header) [fieldCount]cell {
	return [fieldCount]cell{
		fieldParent:      {text: h.Parent[:]},
		fieldUncles:      {text: h.Uncles[:]},
		fieldCoinbase:    {text: h.Coinbase[:]},
		fieldState:       {text: h.State[:]},
		fieldTxRoot:      {text: h.TxRoot[:]},
		fieldReceiptRoot: {text: h.ReceiptRoot[:]},
		fieldBloom:       {text: h.Bloom[:]},
		fieldDifficulty:  {number: h.Difficulty},
		fieldNumber:      {number: u256.From(h.Number)},
		fieldLimit:       {number: u256.From(h.Limit)},
		fieldUsed:        {number: u256.From(h.Used)},
		fieldTime:        {number: u256.From(h.Time)},
		fieldExtra:       {text: h.Extra},
		fieldMix:         {text: h.Mix[:]},
		fieldNonce:       {text: h.Nonce[:]},
		fieldBaseFee:     {number: h.BaseFee},
		fieldWithdrawals: {text: h.Withdrawals[:]},
		fieldBlobUsed:    {number: u256.From(h.BlobUsed)},
		fieldBlobExcess:  {number: u256.From(h.BlobExcess)},
		fieldBeacon:      {text: h.Beacon[:]},
		fieldRequests:    {text: h.Requests[:]},
	}
}

// headerOf makes the header of a tail out of what its fields hold. A text without bytes, of a field that the tail does not have, leaves it zero.
func headerOf(cells [fieldCount]cell, tail int) api.Header {
	h := api.Header{
		Difficulty: cells[fieldDifficulty].number,
		Number:     lowest(cells[fieldNumber]),
		Limit:      lowest(cells[fieldLimit]),
		Used:       lowest(cells[fieldUsed]),
		Time:       lowest(cells[fieldTime]),
		Extra:      cells[fieldExtra].text,
		Tail:       tail,
		BaseFee:    cells[fieldBaseFee].number,
		BlobUsed:   lowest(cells[fieldBlobUsed]),
		BlobExcess: lowest(cells[fieldBlobExcess]),
	}
	copy(h.Parent[:], cells[fieldParent].text)
	copy(h.Uncles[:], cells[fieldUncles].text)
	copy(h.Coinbase[:], cells[fieldCoinbase].text)
	copy(h.State[:], cells[fieldState].text)
	copy(h.TxRoot[:], cells[fieldTxRoot].text)
	copy(h.ReceiptRoot[:], cells[fieldReceiptRoot].text)
	copy(h.Bloom[:], cells[fieldBloom].text)
	copy(h.Mix[:], cells[fieldMix].text)
	copy(h.Nonce[:], cells[fieldNonce].text)
	copy(h.Withdrawals[:], cells[fieldWithdrawals].text)
	copy(h.Beacon[:], cells[fieldBeacon].text)
	copy(h.Requests[:], cells[fieldRequests].text)
	return h
}

// lowest tells a number that is known to be below 2^64.
func lowest(c cell) uint64 { return c.number[0] }
