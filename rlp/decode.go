package rlp

import (
	"bytes"

	"waybill/api"
)

// level is a list that has begun and not yet ended.
type level struct {
	end   int        // where what it holds ends
	items []api.Item // those that have ended
}

// Decode reads the one item that bytes are.
func Decode(b []byte) (api.Item, api.Errno) {
	var (
		stack []level // the innermost list stands last
		in    *level  // and this is it, where there is one
		at    int
		end   = len(b) // where the next item's room ends
		h     head
		it    api.Item // the last one that has ended
		e     api.Errno
	)
	if len(b) > api.MaxInput {
		e = api.ErrLong
		goto broken
	}

begin: // an item begins
	h, e = readHead(b[at:end])
	if e != api.OK {
		goto broken
	}
	at += h.size
	if h.list {
		goto down
	}
	it = api.Item{Data: bytes.Clone(b[at : at+h.held])}
	at += h.held
	goto ended

down: // it is a list, what it holds lies ahead
	if len(stack) == api.MaxDepth {
		e = api.ErrRlpDeep
		goto broken
	}
	stack = append(stack, level{end: at + h.held})

inside: // is there more in the innermost list?
	in = &stack[len(stack)-1]
	end = in.end
	if at < end {
		goto begin
	}
	it = api.Item{List: true, Items: in.items}
	stack = stack[:len(stack)-1]

ended: // an item has ended: the innermost list's, or the only one
	if len(stack) > 0 {
		in = &stack[len(stack)-1]
		in.items = append(in.items, it)
		goto inside
	}
	if at < len(b) {
		e = api.ErrRlpRest
		goto broken
	}
	return it, api.OK

broken: // the one place where a text is given up
	return api.Item{}, e
}
