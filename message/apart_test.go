package message_test

import (
	"bytes"
	"slices"
	"sync"
	"testing"

	"waybill/api"
	"waybill/chance"
	"waybill/message"
)

// roomyValues tells values again, in memory of their own, with room beyond the ends of all texts and lists.
func roomyValues(values []api.Value) []api.Value {
	list := make([]api.Value, 0, len(values)+3)
	for _, v := range values {
		data := append(make([]byte, 0, len(v.Data)+40), v.Data...)
		list = append(list, api.Value{Num: v.Num, Data: data, Items: roomyValues(v.Items)})
	}
	return list
}

// wholeValues tells values with all that stands in the room beyond their ends, in memory of its own.
func wholeValues(values []api.Value) []api.Value {
	var list []api.Value
	for _, v := range values[:cap(values)] {
		list = append(list, api.Value{Num: v.Num, Data: bytes.Clone(v.Data[:cap(v.Data)]), Items: wholeValues(v.Items)})
	}
	return list
}

func sameValues(a, b []api.Value) bool {
	return slices.EqualFunc(a, b, func(x, y api.Value) bool {
		return x.Num == y.Num && bytes.Equal(x.Data, y.Data) && sameValues(x.Items, y.Items)
	})
}

// roomyStructs and wholeStructs do the same with structs.

func roomyStructs(structs []api.Struct) []api.Struct {
	list := make([]api.Struct, 0, len(structs)+3)
	for _, s := range structs {
		members := append(make([]api.Member, 0, len(s.Members)+3), s.Members...)
		list = append(list, api.Struct{Name: s.Name, Members: members})
	}
	return list
}

func wholeStructs(structs []api.Struct) []api.Struct {
	var list []api.Struct
	for _, s := range structs[:cap(structs)] {
		list = append(list, api.Struct{Name: s.Name, Members: slices.Clone(s.Members[:cap(s.Members)])})
	}
	return list
}

func sameStructs(a, b []api.Struct) bool {
	return slices.EqualFunc(a, b, func(x, y api.Struct) bool {
		return x.Name == y.Name && slices.Equal(x.Members, y.Members)
	})
}

// P23.10, P0.3: structs and values that are handed in are not written to, nor their room beyond the end; answers do not change with them.
func TestTypedApart(t *testing.T) {
	r := chance.Row(2340)
	for n := range 500 {
		plain := anyStructs(&r)
		name := plain[r.Below(len(plain))].Name
		spoilt := row(anyValues(&r, plain, name, 0)...)
		if n%3 == 0 {
			spoil(&r, &spoilt)
		}
		structs, values := roomyStructs(plain), roomyValues(spoilt.Items)
		beforeStructs, beforeValues := wholeStructs(structs), wholeValues(values)
		own, _ := message.TypeText(structs, name)
		message.TypeHash(structs, name)
		message.StructHash(structs, name, values)
		message.TypedDigest(anyDomain(&r), structs, name, values)
		if !sameStructs(wholeStructs(structs), beforeStructs) || !sameValues(wholeValues(values), beforeValues) {
			t.Fatalf("P23.10: what was handed in was written to: %v, %v", plain, values)
		}
		for i := range structs {
			clear(structs[i].Members[:cap(structs[i].Members)])
		}
		clear(structs[:cap(structs)])
		if want, _ := modelText(plain, name); own != want {
			t.Fatalf("P0.3: the answer changes with the structs: %q, want %q", own, want)
		}
	}
}

// P23.10, P0.3: the same of plain texts.
func TestPlainApart(t *testing.T) {
	r := chance.Row(2341)
	for n := range 100 {
		data, memory := r.Roomy(n)
		before := bytes.Clone(memory)
		message.Personal(data)
		message.Intended(api.Address(r.Text(20)), data)
		sig, _ := message.SignPersonal(data, one)
		message.RecoverPersonal(data, sig)
		if !bytes.Equal(memory, before) {
			t.Fatalf("P23.10: %d bytes were written to", n)
		}
	}
}

// P0.4: lists without values and nil are the same.
func TestNilAndEmpty(t *testing.T) {
	if message.Personal(nil) != message.Personal([]byte{}) || message.Intended(api.Address{}, nil) != message.Intended(api.Address{}, []byte{}) {
		t.Error("P0.4: texts")
	}
	empty := api.Value{Data: []byte{}, Items: []api.Value{}}
	for _, typ := range []string{"uint8", "bytes", "string", "bool[]", "T[]", "E"} {
		structs := append(with(typ), api.Struct{Name: "E", Members: []api.Member{}})
		h, e := message.StructHash(structs, "T", all(empty))
		structs[1].Members = nil
		same, f := message.StructHash(structs, "T", all(num(0)))
		if h != same || e != api.OK || f != api.OK {
			t.Errorf("P0.4: %s: %x, %d, and %x, %d", typ, h, e, same, f)
		}
	}
	for _, structs := range [][]api.Struct{nil, {}} {
		if s, e := message.TypeText(structs, "T"); s != "" || e != api.ErrMsgType {
			t.Errorf("P0.4: %q, %d", s, e)
		}
	}
	h, e := message.StructHash(structsOf("E()"), "E", nil)
	same, f := message.StructHash(structsOf("E()"), "E", []api.Value{})
	if h != same || e != api.OK || f != api.OK {
		t.Errorf("P0.4: %x, %d, and %x, %d", h, e, same, f)
	}
}

// P23.10, P0.6: the same again, after whatever else, and in goroutines at one time.
func TestSameAgain(t *testing.T) {
	var group sync.WaitGroup
	for n := range 8 {
		group.Go(func() {
			r := chance.Row(2342 + n%2)
			for range 200 {
				d, structs := anyDomain(&r), anyStructs(&r)
				name := structs[r.Below(len(structs))].Name
				values := anyValues(&r, structs, name, 0)
				want, _ := modelTyped(d, structs, name, values)
				first, e := message.TypedDigest(d, structs, name, values)
				_, wrong := message.TypeText(structs, "Nobody")
				second, f := message.TypedDigest(d, structs, name, values)
				if first != want || second != want || e != api.OK || f != api.OK || wrong != api.ErrMsgType {
					t.Errorf("P0.6: %v: %x, %x, want %x", structs, first, second, want)
					return
				}
			}
		})
	}
	group.Wait()
}
