package abi

import "waybill/api"

// packed tells the bytes of values without filling.
func packed(row *shape, values []api.Value) []byte {
	for i := range row.parts {
		if !row.parts[i].packs() {
			giveUp(api.ErrAbiType)
		}
	}
	row.checkRow(values)
	room := 0
	for i, v := range values {
		room += row.parts[i].packedRoom(v)
	}
	if room > api.MaxInput {
		giveUp(api.ErrLong)
	}
	out := make([]byte, 0, room)
	for i, v := range values {
		out = row.parts[i].pack(out, v)
	}
	return out
}

// packs tells whether a type may stand in a packed row.
func (t *shape) packs() bool {
	if t.kind == someList {
		t = &t.parts[0]
		return t.kind != someList && t.kind != someTuple && !t.dynamic
	}
	return t.kind != someTuple
}

func (t *shape) packedRoom(v api.Value) int {
	switch t.kind {
	case someText:
		return len(v.Data)
	case someList:
		return wordSize * len(v.Items)
	}
	return t.numberRoom()
}

// numberRoom tells how many bytes a number's bits take.
func (t *shape) numberRoom() int { return (t.size + 7) / 8 }

func (t *shape) pack(out []byte, v api.Value) []byte {
	switch t.kind {
	case someText:
		return append(out, v.Data...)
	case someList:
		for _, item := range v.Items {
			word := t.parts[0].word(item)
			out = append(out, word[:]...)
		}
		return out
	}
	word := t.word(v)
	return append(out, word[wordSize-t.numberRoom():]...)
}
