package abi_test

import (
	"bytes"
	"slices"
	"strings"
	"sync"
	"testing"

	"waybill/abi"
	"waybill/api"
	"waybill/chance"
)

// texts tells all the texts of a value, lists all its lists.

func texts(v api.Value) [][]byte {
	list := [][]byte{v.Data}
	for _, item := range v.Items {
		list = append(list, texts(item)...)
	}
	return list
}

func lists(v api.Value) [][]api.Value {
	list := [][]api.Value{v.Items}
	for _, item := range v.Items {
		list = append(list, lists(item)...)
	}
	return list
}

// isApart paints each text and each list of an answer in a colour of its own, with the room beyond its end, and tells whether each one keeps it. The answer is spoilt then.
func isApart(values []api.Value) bool {
	whole := api.Value{Items: values}
	rows, bytes := lists(whole), texts(whole)
	for i, b := range bytes {
		b = b[:cap(b)]
		for j := range b {
			b[j] = byte(i)
		}
	}
	for i, b := range bytes {
		for _, colour := range b[:cap(b)] {
			if colour != byte(i) {
				return false
			}
		}
	}
	for i, items := range rows {
		items = items[:cap(items)]
		for j := range items {
			items[j] = num(uint64(i))
		}
	}
	for i, items := range rows {
		for _, item := range items[:cap(items)] {
			if item.Num[0] != uint64(i) {
				return false
			}
		}
	}
	return true
}

// roomy tells values again, in memory of their own, with room beyond the ends of all texts and lists.
func roomy(values []api.Value) []api.Value {
	list := make([]api.Value, 0, len(values)+3)
	for _, v := range values {
		data := append(make([]byte, 0, len(v.Data)+40), v.Data...)
		list = append(list, api.Value{Num: v.Num, Data: data, Items: roomy(v.Items)})
	}
	return list
}

// whole tells values with all that stands in the room beyond their ends, in memory of its own.
func whole(values []api.Value) []api.Value {
	var list []api.Value
	for _, v := range values[:cap(values)] {
		list = append(list, api.Value{Num: v.Num, Data: bytes.Clone(v.Data[:cap(v.Data)]), Items: whole(v.Items)})
	}
	return list
}

// P0.3: what is encoded is not written to, nor its room beyond the end; the answers are new memory.
func TestEncodeApart(t *testing.T) {
	r := chance.Row(2216)
	for range 500 {
		types, plain := anyRow(&r)
		names := append(make([]string, 0, len(types)+3), types...)
		values := roomy(plain)
		before := whole(values)
		want, _ := modelEncode(types, plain)
		first, _ := abi.Encode(names, values)
		second, _ := abi.Encode(names, values)
		call, _ := abi.Call("f("+strings.Join(types, ",")+")", values)
		packed, _ := abi.Packed(names, values)
		for i, s := range types {
			abi.Check(s, values[i])
		}
		for _, b := range [][]byte{first, call, packed} {
			clear(b[:cap(b)])
		}
		if !same(whole(values), before) || !slices.Equal(names[:cap(names)], append(slices.Clone(types), "", "", "")) {
			t.Fatalf("P0.3: %v: what was handed in was written to", types)
		}
		isApart(values)
		if !bytes.Equal(second, want) {
			t.Fatalf("P0.3: %v: the answers share memory", types)
		}
	}
}

// P0.3: what is decoded is not written to, nor its room beyond the end; the values are new memory, each list apart from the others.
func TestDecodeApart(t *testing.T) {
	r := chance.Row(2217)
	for range 500 {
		types, want := anyRow(&r)
		s := "f(" + strings.Join(types, ",") + ")"
		plain, _ := abi.Call(s, want)
		data, memory := r.Roomy(len(plain))
		copy(data, plain)
		before := bytes.Clone(memory)
		first, e := abi.Decode(types, data[4:])
		second, f := abi.Decode(types, data[4:])
		third, g := abi.Args(s, data)
		fourth, h := abi.Args(s, data)
		if e != api.OK || f != api.OK || g != api.OK || h != api.OK || !bytes.Equal(memory, before) {
			t.Fatalf("P0.3: %v: %d, %d, %d, %d, or the bytes were written to", types, e, f, g, h)
		}
		if !isApart(first) || !isApart(third) || !bytes.Equal(memory, before) || !same(second, want) || !same(fourth, want) {
			t.Fatalf("P0.3: %v: the answers share memory", types)
		}
		clear(memory)
		if !same(second, want) || !same(fourth, want) {
			t.Fatalf("P0.3: %v: the answers change with the bytes", types)
		}
	}
}

// P0.3: the list of types that Signature tells is new memory.
func TestSignatureApart(t *testing.T) {
	_, first, _ := abi.Signature("f(bool,uint,(int,bytes)[])")
	_, second, _ := abi.Signature("f(bool,uint,(int,bytes)[])")
	clear(first[:cap(first)])
	if !slices.Equal(second, []string{"bool", "uint256", "(int256,bytes)[]"}) {
		t.Errorf("P0.3: %v", second)
	}
}

// P0.6: the same again, after whatever else, and in goroutines at one time.
func TestSameAgain(t *testing.T) {
	var group sync.WaitGroup
	for n := range 8 {
		group.Go(func() {
			r := chance.Row(2218 + n%2)
			for range 300 {
				types, values := anyRow(&r)
				want, _ := modelEncode(types, values)
				b, e := abi.Encode(types, values)
				_, none := abi.Type(strings.Join(types, " ") + "]")
				l, f := abi.Decode(types, b)
				if e != api.OK || f != api.OK || none != api.ErrAbiType || !bytes.Equal(b, want) || !same(l, values) {
					t.Errorf("P0.6: %v: %d, %d, %d", types, e, f, none)
					return
				}
			}
		})
	}
	group.Wait()
}
