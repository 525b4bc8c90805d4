package receipt

import (
	"waybill/api"
	"waybill/rlp"
)

// reader goes through the items of a list, each of its methods over one of them or over what was read. It keeps the first error; once there is one, none of them does anything.
type reader struct {
	items []api.Item // those that are not read yet
	e     api.Errno
}

// read takes the next item; whatever is found wrong there, it is a field that may not be.
func read[T any](in *reader, get func(api.Item) (T, api.Errno)) T {
	var value T
	if in.e != api.OK {
		return value
	}
	value, e := get(in.items[0])
	in.items = in.items[1:]
	if e != api.OK {
		in.e = api.ErrRcField
	}
	return value
}

func (in *reader) text() []byte { return read(in, rlp.GetText) }

func (in *reader) small() uint64 { return read(in, rlp.GetSmall) }

func (in *reader) list() []api.Item { return read(in, itemsOf) }

// fixed reads a text of n bytes; there are none of it beside an error.
func (in *reader) fixed(n int) []byte {
	return read(in, func(it api.Item) ([]byte, api.Errno) { return rlp.GetFixed(it, n) })
}

// itemsOf tells the items of a list as they are; rlp.GetList would copy all that stands in them.
func itemsOf(it api.Item) ([]api.Item, api.Errno) {
	if !it.List || len(it.Data) > 0 {
		return nil, api.ErrRcField
	}
	return it.Items, api.OK
}

// outcome reads a receipt's status, or the root that stands in its place in the oldest ones.
func (in *reader) outcome(r *api.Receipt) {
	b := in.text()
	switch {
	case in.e != api.OK || len(b) == 0: // Status is 0
	case len(b) == 1 && b[0] == statusGood:
		r.Status = statusGood
	case len(b) == len(r.Root) && r.Type == api.TypeLegacy:
		r.Rooted, r.Root = true, api.Hash(b)
	default:
		in.e = api.ErrRcField
	}
}

func (in *reader) topics() []api.Hash {
	var topics []api.Hash
	for _, it := range in.list() {
		b, e := rlp.GetFixed(it, len(api.Hash{}))
		if e != api.OK {
			in.e = api.ErrRcField
			return nil
		}
		topics = append(topics, api.Hash(b))
	}
	return topics
}

// checkTopics comes behind all fields of a log: a field that may not be counts ahead of too many topics.
func (in *reader) checkTopics(l api.Log) {
	if in.e == api.OK && hasManyTopics(l) {
		in.e = api.ErrRcTopics
	}
}

func (in *reader) logs() []api.Log {
	var logs []api.Log
	for _, it := range in.list() {
		l, e := ParseLog(it)
		if e != api.OK {
			in.e = e
			return nil
		}
		logs = append(logs, l)
	}
	return logs
}

func (in *reader) checkBloom(r api.Receipt) {
	if in.e == api.OK && r.Bloom != BloomOf(r.Logs) {
		in.e = api.ErrRcBloom
	}
}
