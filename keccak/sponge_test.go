package keccak_test

import (
	"bytes"
	"crypto/sha3"
	"math"
	"testing"

	"waybill/api"
	"waybill/chance"
	"waybill/keccak"
)

// sponge makes one of the kind.
func sponge(t *testing.T, kind int) *keccak.Sponge {
	t.Helper()
	s, e := keccak.New(kind)
	if s == nil || e != api.OK {
		t.Fatalf("New(%d): %v, %v", kind, s, e)
	}
	return s
}

// digest tells what a sponge of the kind must answer.
func digest(kind int, text []byte) api.Hash {
	if kind == api.SpongeSha3 {
		return sha3.Sum256(text)
	}
	return modelKeccak(text)
}

// holds fails the test unless the sponge has taken in just the text.
func holds(t *testing.T, what string, s *keccak.Sponge, kind int, text []byte) {
	t.Helper()
	if s.Len() != len(text) {
		t.Fatalf("%s: Len = %d, want %d", what, s.Len(), len(text))
	}
	if got, want := s.Sum(), digest(kind, text); got != want {
		t.Fatalf("%s: Sum = %x, want %x", what, got, want)
	}
}

// P2.4: the two kinds, and others.
func TestNew(t *testing.T) {
	for _, kind := range []int{api.SpongeKeccak, api.SpongeSha3} {
		holds(t, "a new sponge", sponge(t, kind), kind, nil)
	}
	for _, kind := range []int{-1, -2, 2, 3, 6, 256, 257, 1 << 32, 1<<32 + 1, math.MaxInt, math.MinInt} {
		if s, e := keccak.New(kind); s != nil || e != api.ErrArg {
			t.Errorf("New(%d): %v, %v", kind, s, e)
		}
	}
}

// P2.4: the zero value is a sponge of Keccak-256.
func TestZeroSponge(t *testing.T) {
	var s keccak.Sponge
	holds(t, "the zero value", &s, api.SpongeKeccak, nil)
	s.Write([]byte("abc"))
	holds(t, "the zero value", &s, api.SpongeKeccak, []byte("abc"))
	holds(t, "its copy", s.Copy(), api.SpongeKeccak, []byte("abc"))
	s.Reset()
	holds(t, "the zero value, reset", &s, api.SpongeKeccak, nil)
	text := bytes.Repeat([]byte{5}, 3*block)
	new(keccak.Sponge).Write(text)
	s.Write(text)
	holds(t, "the zero value", &s, api.SpongeKeccak, text)
}

// The chapter's example 5.
func TestSpongeExample(t *testing.T) {
	s := sponge(t, api.SpongeKeccak)
	s.Write([]byte("a"))
	holds(t, "a", s, api.SpongeKeccak, []byte("a"))
	s.Write([]byte("bc"))
	holds(t, "abc", s, api.SpongeKeccak, []byte("abc"))
	twin := s.Copy()
	s.Write([]byte("d"))
	holds(t, "the copy", twin, api.SpongeKeccak, []byte("abc"))
	s.Reset()
	holds(t, "reset", s, api.SpongeKeccak, nil)
}

// P2.5, P2.6: pieces of all lengths, Sum asked ahead of each and twice.
func TestWrite(t *testing.T) {
	row := chance.Row(10)
	for _, kind := range []int{api.SpongeKeccak, api.SpongeSha3} {
		text := row.Text(5 * block)
		for _, step := range []int{1, 2, 7, 8, 9, 64, block - 1, block, block + 1, 2 * block, 2*block + 3} {
			s := sponge(t, kind)
			for at := 0; at < len(text); at += step {
				holds(t, "in pieces", s, kind, text[:at])
				holds(t, "asked again", s, kind, text[:at])
				s.Write(text[at:min(len(text), at+step)])
			}
			holds(t, "the whole", s, kind, text)
		}
	}
}

// P2.5, P0.4: a piece without bytes changes nothing, at any place of a block.
func TestWriteNothing(t *testing.T) {
	row := chance.Row(11)
	for _, n := range []int{0, 1, block - 1, block, block + 1, 2 * block} {
		text := row.Text(n)
		s := sponge(t, api.SpongeSha3)
		s.Write(nil)
		s.Write(text)
		s.Write(nil)
		s.Write([]byte{})
		holds(t, "nothing", s, api.SpongeSha3, text)
		s.Write([]byte("more"))
		holds(t, "more", s, api.SpongeSha3, append(text, "more"...))
	}
}

// P2.7: Reset at any place; the kind stays.
func TestReset(t *testing.T) {
	row := chance.Row(12)
	for _, kind := range []int{api.SpongeKeccak, api.SpongeSha3} {
		s := sponge(t, kind)
		for _, n := range []int{0, 1, block - 1, block, block + 1, 2 * block, 3*block + 5} {
			s.Write(row.Text(n))
			s.Reset()
			holds(t, "reset", s, kind, nil)
			s.Reset()
			text := row.Text(n)
			s.Write(text)
			holds(t, "behind Reset", s, kind, text)
		}
	}
}

// P2.7, P2.9: a copy has the kind and the bytes, and goes on by itself.
func TestCopy(t *testing.T) {
	row := chance.Row(13)
	for _, kind := range []int{api.SpongeKeccak, api.SpongeSha3} {
		for _, n := range []int{0, 1, block - 1, block, block + 1, 2*block + 9} {
			text, left, right := row.Text(n), row.Text(row.Below(300)), row.Text(row.Below(300))
			s := sponge(t, kind)
			s.Write(text)
			twin, third := s.Copy(), s.Copy()
			holds(t, "a copy", twin, kind, text)
			s.Write(left)
			holds(t, "a copy, behind Write", twin, kind, text)
			twin.Write(right)
			holds(t, "the first, behind Write of a copy", s, kind, append(bytes.Clone(text), left...))
			holds(t, "a copy, behind its Write", twin, kind, append(bytes.Clone(text), right...))
			s.Reset()
			holds(t, "a copy, behind Reset", twin, kind, append(bytes.Clone(text), right...))
			twin.Reset()
			holds(t, "another copy", third, kind, text)
			holds(t, "a copy of a copy", third.Copy(), kind, text)
		}
	}
}

// P2.8, P0.5: a nil sponge.
func TestNilSponge(t *testing.T) {
	var s *keccak.Sponge
	s.Write([]byte("abc"))
	s.Write(nil)
	s.Reset()
	if s.Len() != 0 || s.Sum() != (api.Hash{}) || s.Copy() != nil {
		t.Errorf("a nil sponge: %d, %x, %v", s.Len(), s.Sum(), s.Copy())
	}
}

// P2.6, P2.7: any row of calls on several sponges, held against the bytes that each has taken in.
func TestSpongeCalls(t *testing.T) {
	row := chance.Row(14)
	type kept struct {
		s    *keccak.Sponge
		kind int
		text []byte
	}
	all := []kept{{sponge(t, 0), 0, nil}, {sponge(t, 1), 1, nil}}
	for range 3000 {
		k := &all[row.Below(len(all))]
		switch row.Below(8) {
		case 0:
			k.s.Reset()
			k.text = nil
		case 1:
			if len(all) < 8 {
				all = append(all, kept{k.s.Copy(), k.kind, bytes.Clone(k.text)})
			}
		default:
			more := row.Text(row.Below(200))
			k.s.Write(more)
			k.text = append(k.text, more...)
		}
		k = &all[row.Below(len(all))]
		holds(t, "any row of calls", k.s, k.kind, k.text)
	}
}
