package ecdsa_test

import (
	"bytes"
	"math/big"
	"slices"
	"testing"

	"waybill/api"
	"waybill/chance"
	"waybill/ecdsa"
)

// word tells the 32 bytes of a number, by math/big.
func word(x api.U256) []byte { return wide(x).FillBytes(make([]byte, 32)) }

// modelPack tells the bytes of a right signature: Odd counts 2^255 more in s.
func modelPack(s api.Sig) []byte {
	second := wide(s.S)
	if s.Odd {
		second.SetBit(second, 255, 1)
	}
	return slices.Concat(word(s.R), second.FillBytes(make([]byte, 32)))
}

// modelUnpack follows P6.8 word for word.
func modelUnpack(data []byte) (api.Sig, api.Errno) {
	if len(data) != 64 {
		return noSig, api.ErrSigForm
	}
	second := new(big.Int).SetBytes(data[32:])
	s := api.Sig{R: narrow(new(big.Int).SetBytes(data[:32])), Odd: second.Bit(255) == 1}
	s.S = narrow(second.SetBit(second, 255, 0))
	if e := modelCheck(s); e != api.OK {
		return noSig, e
	}
	return s, api.OK
}

func checkUnpack(t *testing.T, data []byte) api.Errno {
	t.Helper()
	want, wantE := modelUnpack(data)
	got, e := ecdsa.Unpack(data)
	if got != want || e != wantE {
		t.Fatalf("Unpack(%v) = %v, %d, want %v, %d", data, got, e, want, wantE)
	}
	return e
}

// P6.8: the chapter's example 7.
func TestPackExamples(t *testing.T) {
	want := slices.Concat(make([]byte, 31), []byte{1, 0x80}, make([]byte, 30), []byte{1})
	if got, e := ecdsa.Pack(api.Sig{R: one, S: one, Odd: true}); !bytes.Equal(got, want) || e != api.OK {
		t.Errorf("Pack of 1, 1, Odd = %x, %d", got, e)
	}
	for _, c := range []struct {
		data []byte
		want api.Errno
	}{
		{make([]byte, 63), api.ErrSigForm}, {make([]byte, 65), api.ErrSigForm}, {make([]byte, 64), api.ErrSigR}, {slices.Repeat([]byte{0xff}, 64), api.ErrSigR},
	} {
		if got, e := ecdsa.Unpack(c.data); got != noSig || e != c.want {
			t.Errorf("Unpack(%v) = %v, %d", c.data, got, e)
		}
	}
}

// P6.8, P6.10: bytes of signatures at all edges and by chance, and back.
func TestPack(t *testing.T) {
	row := chance.Row(80)
	all := sigs()
	for range 500 {
		all = append(all, api.Sig{R: anyKey(&row), S: anyLow(&row), Odd: row.Below(2) == 0})
	}
	packed := 0
	for _, s := range all {
		if modelCheck(s) != api.OK {
			continue
		}
		packed++
		data, e := ecdsa.Pack(s)
		if !bytes.Equal(data, modelPack(s)) || e != api.OK {
			t.Errorf("Pack(%v) = %v, %d", s, data, e)
		}
		if got, e := ecdsa.Unpack(data); got != s || e != api.OK {
			t.Errorf("Unpack(%v) = %v, %d, want %v", data, got, e, s)
		}
	}
	if packed < 600 {
		t.Errorf("only %d signatures", packed)
	}
}

// P6.8, P0.4: a length other than 64 is told ahead of all else.
func TestUnpackLength(t *testing.T) {
	row := chance.Row(81)
	right := modelPack(api.Sig{R: one, S: one, Odd: true})
	for _, source := range [][]byte{slices.Concat(right, right, right), make([]byte, 192), row.Text(192)} {
		for n := range len(source) + 1 {
			if e := checkUnpack(t, source[:n]); (e == api.ErrSigForm) != (n != 64) {
				t.Errorf("Unpack of %d bytes: %d", n, e)
			}
		}
	}
	checkUnpack(t, nil)
	checkUnpack(t, []byte{})
	checkUnpack(t, make([]byte, api.MaxInput+1))
}

// P6.8, P6.10: 64 bytes of all kinds: r and s that are refused, and bytes that come back.
func TestUnpack(t *testing.T) {
	row := chance.Row(82)
	seen := map[api.Errno]int{}
	check := func(data []byte) {
		e := checkUnpack(t, data)
		seen[e]++
		if e != api.OK {
			return
		}
		s, _ := ecdsa.Unpack(data)
		if again, e := ecdsa.Pack(s); !bytes.Equal(again, data) || e != api.OK {
			t.Errorf("Pack(%v) = %v, %d, want %v", s, again, e, data)
		}
	}
	for _, r := range parts() {
		for _, s := range parts() {
			data := slices.Concat(word(r), word(s))
			check(data)
			data[32] ^= 0x80
			check(data)
		}
	}
	right := modelPack(api.Sig{R: narrow(half()), S: narrow(half())})
	for i := range 512 {
		data := slices.Clone(right)
		data[i/8] ^= 1 << (i % 8)
		check(data)
	}
	for range 500 {
		check(row.Text(64))
	}
	for _, e := range []api.Errno{api.OK, api.ErrSigR, api.ErrSigS, api.ErrSigHigh} {
		if seen[e] == 0 {
			t.Errorf("%d never comes", e)
		}
	}
}

// P6.11, P0.3: nothing is written into what is handed in, nor behind its end, nor is it kept; answers are new memory.
func TestShares(t *testing.T) {
	row := chance.Row(83)
	for range 50 {
		s := api.Sig{R: anyKey(&row), S: anyLow(&row), Odd: row.Below(2) == 0}
		data, memory := row.Roomy(64)
		copy(data, modelPack(s))
		before := slices.Clone(memory)
		got, e := ecdsa.Unpack(data)
		if got != s || e != api.OK || !bytes.Equal(memory, before) {
			t.Errorf("Unpack(%v) = %v, %d", data, got, e)
		}
		clear(memory)
		first, _ := ecdsa.Pack(got)
		second, _ := ecdsa.Pack(got)
		clear(first[:cap(first)])
		if !bytes.Equal(second, modelPack(s)) {
			t.Errorf("Pack(%v) = %v, once another answer was changed", s, second)
		}
		if third, _ := ecdsa.Pack(got); !bytes.Equal(third, modelPack(s)) {
			t.Errorf("Pack(%v) = %v, once another answer was changed", s, third)
		}
	}
}
