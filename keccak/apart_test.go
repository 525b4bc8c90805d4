package keccak_test

import (
	"bytes"
	"testing"

	"waybill/api"
	"waybill/chance"
	"waybill/keccak"
)

// P2.9, P0.3: nothing is written into a text, nor into its room beyond the end, and what stands in that room counts for nothing.
func TestTextsKept(t *testing.T) {
	row := chance.Row(15)
	for _, n := range []int{0, 1, 7, 8, block - 1, block, block + 1, 2 * block} {
		text, whole := row.Roomy(n)
		before := bytes.Clone(whole)
		want := modelKeccak(text)
		var s keccak.Sponge
		s.Write(text)
		other, _ := keccak.New(api.SpongeSha3)
		other.Write(text)
		other.Sum()
		keccak.Sha3(text, text)
		list := [][]byte{text, text, []byte("room")}
		if s.Sum() != want || keccak.Sum(text) != want || keccak.Sum(list[:1]...) != want {
			t.Errorf("the room beyond %d bytes counts", n)
		}
		if l := keccak.Many(list[:1]); len(l) != 1 || l[0] != want {
			t.Errorf("Many of one text of %d bytes: %x", n, l)
		}
		if !bytes.Equal(whole, before) {
			t.Errorf("a text of %d bytes, or its room, was written to", n)
		}
		if len(list) != 3 || !bytes.Equal(list[1], text) || string(list[2]) != "room" {
			t.Errorf("the list of texts, or its room, was written to")
		}
	}
}

// P2.9: who writes over a list that was handed to Write changes nothing.
func TestWrittenOver(t *testing.T) {
	row := chance.Row(16)
	for _, n := range []int{1, 8, block - 1, block, block + 1, 2*block + 1} {
		text, whole := row.Roomy(n)
		want := modelKeccak(text)
		var s keccak.Sponge
		s.Write(text)
		clear(whole)
		if s.Sum() != want || s.Copy().Sum() != want {
			t.Errorf("a sponge sees what its caller writes over %d bytes", n)
		}
		for i := range whole {
			whole[i] = 0xee
		}
		s.Write(whole[:0])
		if s.Sum() != want || s.Len() != n {
			t.Errorf("a sponge sees what its caller writes over %d bytes", n)
		}
	}
}

// P2.9, P0.6: two sponges, and the calls without one, have nothing to do with one another.
func TestSpongesApart(t *testing.T) {
	first, _ := keccak.New(api.SpongeKeccak)
	second, _ := keccak.New(api.SpongeKeccak)
	third, _ := keccak.New(api.SpongeSha3)
	first.Write([]byte("abc"))
	third.Write([]byte("abc"))
	if second.Len() != 0 || second.Sum() != keccak.Sum() {
		t.Error("a sponge has what another was handed")
	}
	second.Write([]byte("xyz"))
	second.Reset()
	keccak.Sum([]byte("x"))
	keccak.Many([][]byte{[]byte("y"), []byte("z")})
	if first.Sum() != modelKeccak([]byte("abc")) || first.Len() != 3 || third.Sum() != keccak.Sha3([]byte("abc")) {
		t.Error("a sponge sees what is done with another")
	}
}
