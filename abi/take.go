package abi

import (
	"bytes"

	"waybill/api"
	"waybill/u256"
)

// taken reads bytes that are a row and nothing else.
func taken(row *shape, data []byte) []api.Value {
	s := source{data: data}
	values := s.row(row, len(row.parts))
	if s.next != len(data) {
		giveUp(api.ErrAbiRest)
	}
	return values
}

// source is read from its begin to its end: the parts stand one behind the other, so only heads lie ahead of next.
type source struct {
	data []byte
	next int
}

// skip goes behind the next n bytes and tells where they begin.
func (s *source) skip(n int) int {
	if n > len(s.data)-s.next {
		giveUp(api.ErrAbiShort)
	}
	begin := s.next
	s.next += n
	return begin
}

// row reads a row of n values.
func (s *source) row(t *shape, n int) []api.Value {
	begin := s.skip(t.heads(n))
	at := begin
	values := make([]api.Value, n)
	for i := range values {
		part := t.part(i)
		if !part.dynamic {
			values[i], at = s.head(at, part)
			continue
		}
		if s.number(at) != u256.From(uint64(s.next-begin)) {
			giveUp(api.ErrAbiPlace)
		}
		values[i] = s.part(part)
		at += wordSize
	}
	return values
}

// head reads a static value, and tells where it ends.
func (s *source) head(at int, t *shape) (api.Value, int) {
	switch t.kind {
	case someText:
		return api.Value{Data: s.filled(at, t.size)}, at + wordSize
	case wholeNumber, signedNumber:
		x := s.number(at)
		needFit(t.holds(x))
		return api.Value{Num: x}, at + wordSize
	}
	items := make([]api.Value, t.fixed())
	for i := range items {
		items[i], at = s.head(at, t.part(i))
	}
	return api.Value{Items: items}, at
}

// part reads a dynamic value.
func (s *source) part(t *shape) api.Value {
	switch {
	case t.kind == someText:
		n := s.count()
		return api.Value{Data: s.filled(s.skip(wholeWords(n)), n)}
	case t.kind == someList && t.size == 0:
		return api.Value{Items: s.row(t, s.count())}
	}
	return api.Value{Items: s.row(t, t.fixed())}
}

// fixed tells how many values each list of that type, or tuple, has.
func (t *shape) fixed() int {
	if t.kind == someList {
		return t.size
	}
	return len(t.parts)
}

func (s *source) number(at int) api.U256 {
	x, _ := u256.Get(s.data[at : at+wordSize])
	return x
}

// count reads the number of bytes or values that are to come. Each takes a byte at least.
func (s *source) count() int {
	x := s.number(s.skip(wordSize))
	if u256.Cmp(x, u256.From(uint64(len(s.data)))) > 0 {
		giveUp(api.ErrAbiShort)
	}
	return int(x[0])
}

// filled tells n bytes that are filled with zeros up to whole words.
func (s *source) filled(at, n int) []byte {
	for _, c := range s.data[at+n : at+wholeWords(n)] {
		if c != 0 {
			giveUp(api.ErrAbiPad)
		}
	}
	return bytes.Clone(s.data[at : at+n])
}
