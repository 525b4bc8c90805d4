package header

import (
	"math"

	"waybill/api"
	"waybill/fees"
	"waybill/keccak"
	"waybill/sha"
	"waybill/trie"
	"waybill/u256"
)

const (
	leastLimit = 5000       // no gas limit that follows is below
	slowness   = 1024       // a gas limit moves by less than such a part of it
	emptyList  = 0xc0       // the bytes of a list of no uncles
	firstBase  = 1000000000 // the base fee of the first header that has one
	blobGas    = 131072     // of one blob
)

// Bounds tells the least and the greatest gas limit that may follow one.
func Bounds(limit uint64) (low, high uint64) {
	d := limit / slowness
	if d == 0 {
		return 0, 0
	}
	low = max(limit-d+1, leastLimit)
	high = limit + min(d-1, math.MaxUint64-limit)
	if high < low {
		return 0, 0
	}
	return low, high
}

// mayFollow tells whether a gas limit may follow one that may be 2^64 or more, as a doubled one is.
func mayFollow(next uint64, limit api.U256) bool {
	d, _, _ := u256.DivMod(limit, u256.From(slowness))
	high, _ := u256.Add(limit, d)
	low, _ := u256.Sub(limit, d)
	x := u256.From(next)
	return next >= leastLimit && u256.Cmp(x, high) < 0 && u256.Cmp(x, low) > 0
}

// limitAhead tells the gas limit that a child's is held against: base fees came with blocks twice as great.
func limitAhead(parent api.Header, tail int) api.U256 {
	limit := u256.From(parent.Limit)
	if tail >= api.TailBaseFee && parent.Tail < api.TailBaseFee {
		limit, _ = u256.Add(limit, limit)
	}
	return limit
}

// nextBase tells the base fee of a child with a tail: 0, if the tail has none.
func nextBase(parent api.Header, tail int) (api.U256, api.Errno) {
	switch {
	case tail < api.TailBaseFee:
		return api.U256{}, api.OK
	case parent.Tail < api.TailBaseFee:
		return u256.From(firstBase), api.OK
	}
	base, e := fees.NextBase(parent.BaseFee, parent.Limit, parent.Used)
	if e != api.OK {
		return api.U256{}, api.ErrHdBase
	}
	return base, api.OK
}

// nextExcess tells the excess blob gas of a child with a tail: 0, if the tail has none.
func nextExcess(parent api.Header, tail int) (uint64, api.Errno) {
	if parent.Tail < api.TailBlobs { // the child is the first with blob gas, or has none either
		return 0, api.OK
	}
	target, _ := blobs(tail)
	excess, e := fees.NextExcess(parent.BlobExcess, parent.BlobUsed, target)
	if e != api.OK {
		return 0, api.ErrHdBlob
	}
	return excess, api.OK
}

// blobs tells how much blob gas a block with a tail aims at, and how much it may have.
func blobs(tail int) (target, most uint64) {
	switch tail {
	case api.TailBlobs:
		return 3 * blobGas, 6 * blobGas
	case api.TailRequests:
		return 6 * blobGas, 9 * blobGas
	}
	return 0, 0
}

// Child tells whether a header may follow another one.
func Child(parent, child api.Header) api.Errno {
	hash, e := Hash(parent)
	if e != api.OK {
		return e
	}
	if e := Check(child); e != api.OK {
		return e
	}
	switch {
	case child.Tail >= api.TailWithdrawals && hasWork(child):
		return api.ErrHdField
	case child.Parent != hash || child.Number == 0 || child.Number-1 != parent.Number || child.Tail < parent.Tail:
		return api.ErrHdParent
	case child.Time <= parent.Time:
		return api.ErrHdTime
	case child.Used > child.Limit || !mayFollow(child.Limit, limitAhead(parent, child.Tail)):
		return api.ErrHdGas
	}
	return checkPrices(parent, child)
}

// hasWork tells whether a header has what only blocks that were mined have.
func hasWork(h api.Header) bool {
	return h.Difficulty != api.U256{} || h.Nonce != [8]byte{} || h.Uncles != noUncles()
}

func noUncles() api.Hash { return keccak.Sum([]byte{emptyList}) }

// checkPrices tells whether the base fee and the blob gas of a child, whose tail is not below its parent's, are those that follow. What a tail does not have is zero, and follows.
func checkPrices(parent, child api.Header) api.Errno {
	base, e := nextBase(parent, child.Tail)
	if e != api.OK || child.BaseFee != base {
		return api.ErrHdBase
	}
	excess, e := nextExcess(parent, child.Tail)
	_, most := blobs(child.Tail)
	if e != api.OK || child.BlobExcess != excess || child.BlobUsed%blobGas != 0 || child.BlobUsed > most {
		return api.ErrHdBlob
	}
	return api.OK
}

// Next tells a header that follows another one, at a time, with a tail, with no gas used.
func Next(parent api.Header, time uint64, tail int) (api.Header, api.Errno) {
	hash, e := Hash(parent)
	switch {
	case e != api.OK:
		return api.Header{}, e
	case !isTail(tail):
		return api.Header{}, api.ErrHdField
	case tail < parent.Tail || parent.Number == math.MaxUint64:
		return api.Header{}, api.ErrHdParent
	case time <= parent.Time:
		return api.Header{}, api.ErrHdTime
	}
	ahead := limitAhead(parent, tail)
	limit, e := u256.Small(ahead)
	if e != api.OK || !mayFollow(limit, ahead) {
		return api.Header{}, api.ErrHdGas
	}
	base, e := nextBase(parent, tail)
	if e != api.OK {
		return api.Header{}, e
	}
	excess, e := nextExcess(parent, tail)
	if e != api.OK {
		return api.Header{}, e
	}
	next := api.Header{Parent: hash, State: parent.State, Difficulty: parent.Difficulty, Number: parent.Number + 1, Limit: limit, Time: time, Tail: tail, BaseFee: base, BlobExcess: excess}
	return withoutContents(next), api.OK
}

// withoutContents puts in what stands in a header for no transactions, uncles, withdrawals and requests, as far as its tail has them, and for no work.
func withoutContents(h api.Header) api.Header {
	h.Uncles, h.TxRoot, h.ReceiptRoot = noUncles(), trie.Empty(), trie.Empty()
	if h.Tail >= api.TailWithdrawals {
		h.Difficulty, h.Withdrawals = api.U256{}, trie.Empty()
	}
	if h.Tail >= api.TailRequests {
		h.Requests = sha.Sum()
	}
	return h
}

// Chain tells the first place at which a header does not follow the one ahead of it, and why.
func Chain(list []api.Header) (int, api.Errno) {
	for i, h := range list {
		e := api.OK
		if i == 0 {
			e = Check(h)
		} else {
			e = Child(list[i-1], h)
		}
		if e != api.OK {
			return i, e
		}
	}
	return len(list), api.OK
}
