package abi

import (
	"waybill/api"
	"waybill/u256"
)

// laid tells the bytes of a row of values behind those of a selector.
func laid(selector []byte, row *shape, values []api.Value) []byte {
	row.checkRow(values)
	room := len(selector) + row.rowRoom(values)
	if room > api.MaxInput {
		giveUp(api.ErrLong)
	}
	w := writer{out: append(make([]byte, 0, room), selector...)}
	w.row(row, values)
	return w.out
}

// room tells how many bytes a value takes; of a dynamic one its part alone.
func (t *shape) room(v api.Value) int {
	switch {
	case !t.dynamic:
		return wordSize * t.width
	case t.kind == someText:
		return wordSize + wholeWords(len(v.Data))
	case t.kind == someList && t.size == 0:
		return wordSize + t.rowRoom(v.Items)
	}
	return t.rowRoom(v.Items)
}

func (t *shape) rowRoom(values []api.Value) int {
	room := 0
	for i, v := range values {
		part := t.part(i)
		room += part.room(v)
		if part.dynamic {
			room += wordSize
		}
	}
	return room
}

// wholeWords tells how many bytes n bytes take with their filling.
func wholeWords(n int) int { return (n + wordSize - 1) / wordSize * wordSize }

// writer lays checked values one behind the other.
type writer struct{ out []byte }

// row lays a row: room for all heads first, so that an offset can be told when its part's begin is known.
func (w *writer) row(t *shape, values []api.Value) {
	begin := len(w.out)
	at := begin
	w.zeros(t.heads(len(values)))
	for i, v := range values {
		part := t.part(i)
		if !part.dynamic {
			at = w.head(at, part, v)
			continue
		}
		w.number(at, len(w.out)-begin)
		w.part(part, v)
		at += wordSize
	}
}

// head lays a static value in its place, and tells where it ends.
func (w *writer) head(at int, t *shape, v api.Value) int {
	if t.kind != someList && t.kind != someTuple {
		word := t.word(v)
		return at + copy(w.out[at:], word[:])
	}
	for i, item := range v.Items {
		at = w.head(at, t.part(i), item)
	}
	return at
}

// part lays a dynamic value behind all that is there.
func (w *writer) part(t *shape, v api.Value) {
	switch {
	case t.kind == someText:
		w.count(len(v.Data))
		w.out = append(w.out, v.Data...)
		w.zeros(wholeWords(len(v.Data)) - len(v.Data))
		return
	case t.kind == someList && t.size == 0:
		w.count(len(v.Items))
	}
	w.row(t, v.Items)
}

func (w *writer) zeros(n int) { w.out = append(w.out, make([]byte, n)...) }

func (w *writer) count(n int) {
	w.zeros(wordSize)
	w.number(len(w.out)-wordSize, n)
}

// number puts one into a word that is there.
func (w *writer) number(at, n int) {
	word := u256.Put(u256.From(uint64(n)))
	copy(w.out[at:], word[:])
}

// word tells the word of a static value that is neither a list nor a tuple.
func (t *shape) word(v api.Value) [wordSize]byte {
	if t.kind != someText {
		return u256.Put(v.Num)
	}
	var word [wordSize]byte
	copy(word[:], v.Data)
	return word
}
