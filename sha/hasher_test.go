package sha_test

import (
	"bytes"
	"crypto/sha256"
	"testing"

	"waybill/api"
	"waybill/chance"
	"waybill/sha"
)

// holds fails the test unless the hasher has taken in just the text.
func holds(t *testing.T, what string, h *sha.Hasher, text []byte) {
	t.Helper()
	if h == nil {
		t.Fatalf("%s: no hasher", what)
	}
	if h.Len() != len(text) {
		t.Fatalf("%s: Len = %d, want %d", what, h.Len(), len(text))
	}
	if got, want := h.Sum(), api.Hash(sha256.Sum256(text)); got != want {
		t.Fatalf("%s: Sum = %x, want %x", what, got, want)
	}
}

// lengths: those at which a hasher's block, or its filling, changes.
var lengths = []int{0, 1, 54, 55, 56, 57, block - 1, block, block + 1, 2*block - 9, 2*block - 8, 2 * block, 3*block + 5}

// The chapter's example 5.
func TestHasherExample(t *testing.T) {
	h := sha.New()
	holds(t, "a new hasher", h, nil)
	h.Write([]byte("a"))
	holds(t, "a", h, []byte("a"))
	h.Write([]byte("bc"))
	holds(t, "abc", h, []byte("abc"))
	h.Reset()
	holds(t, "reset", h, nil)
}

// P3.6: pieces of all lengths, Sum asked ahead of each and twice.
func TestWrite(t *testing.T) {
	row := chance.Row(12)
	text := row.Text(6 * block)
	for _, step := range []int{1, 2, 7, 8, 55, 56, block - 1, block, block + 1, 2 * block, 2*block + 3, 6 * block} {
		h := sha.New()
		for at := 0; at < len(text); at += step {
			holds(t, "in pieces", h, text[:at])
			holds(t, "asked again", h, text[:at])
			h.Write(text[at:min(len(text), at+step)])
		}
		holds(t, "the whole", h, text)
	}
}

// P3.6: every cut of a text into two Writes, nothing asked in between.
func TestWriteCuts(t *testing.T) {
	row := chance.Row(13)
	text := row.Text(2*block + 9)
	for cut := range len(text) + 1 {
		h := sha.New()
		h.Write(text[:cut])
		h.Write(text[cut:])
		holds(t, "cut in two", h, text)
	}
}

// P3.6, P0.4: a piece without bytes changes nothing, at any place of a block.
func TestWriteNothing(t *testing.T) {
	row := chance.Row(14)
	for _, n := range lengths {
		text := row.Text(n)
		h := sha.New()
		h.Write(nil)
		h.Write(text)
		h.Write(nil)
		h.Write([]byte{})
		holds(t, "nothing", h, text)
		h.Write([]byte("more"))
		holds(t, "more", h, append(text, "more"...))
	}
}

// P3.6: the zero value is as good as a new one.
func TestZeroHasher(t *testing.T) {
	row := chance.Row(15)
	for _, n := range lengths {
		var h sha.Hasher
		holds(t, "the zero value", &h, nil)
		holds(t, "its copy", h.Copy(), nil)
		text := row.Text(n)
		h.Write(text)
		holds(t, "the zero value", &h, text)
		holds(t, "its copy", h.Copy(), text)
		h.Reset()
		holds(t, "the zero value, reset", &h, nil)
		h.Write(text)
		holds(t, "the zero value, behind Reset", &h, text)
	}
}

// P3.6: Reset at any place, once and twice.
func TestReset(t *testing.T) {
	row := chance.Row(16)
	h := sha.New()
	for _, n := range lengths {
		h.Write(row.Text(n))
		h.Reset()
		holds(t, "reset", h, nil)
		h.Reset()
		text := row.Text(n)
		h.Write(text)
		holds(t, "behind Reset", h, text)
		h.Write(text)
		holds(t, "behind Reset, twice", h, append(bytes.Clone(text), text...))
		h.Reset()
	}
}

// P3.6, P3.8: a copy has the bytes, and goes on by itself.
func TestCopy(t *testing.T) {
	row := chance.Row(17)
	for _, n := range lengths {
		text, left, right := row.Text(n), row.Text(row.Below(300)), row.Text(row.Below(300))
		h := sha.New()
		h.Write(text)
		twin, third := h.Copy(), h.Copy()
		holds(t, "a copy", twin, text)
		h.Write(left)
		holds(t, "a copy, behind Write", twin, text)
		twin.Write(right)
		holds(t, "the first, behind Write of a copy", h, append(bytes.Clone(text), left...))
		holds(t, "a copy, behind its Write", twin, append(bytes.Clone(text), right...))
		h.Reset()
		holds(t, "a copy, behind Reset", twin, append(bytes.Clone(text), right...))
		twin.Reset()
		holds(t, "another copy", third, text)
		holds(t, "a copy of a copy", third.Copy(), text)
	}
}

// P3.7, P0.5: a nil hasher.
func TestNilHasher(t *testing.T) {
	var h *sha.Hasher
	h.Write([]byte("abc"))
	h.Write(nil)
	h.Reset()
	if h.Len() != 0 || h.Sum() != (api.Hash{}) || h.Copy() != nil {
		t.Errorf("a nil hasher: %d, %x, %v", h.Len(), h.Sum(), h.Copy())
	}
}

// P3.6: any row of calls on several hashers, held against the bytes that each has taken in.
func TestHasherCalls(t *testing.T) {
	row := chance.Row(18)
	type kept struct {
		h    *sha.Hasher
		text []byte
	}
	all := []kept{{sha.New(), nil}, {new(sha.Hasher), nil}}
	for range 5000 {
		k := &all[row.Below(len(all))]
		switch row.Below(8) {
		case 0:
			k.h.Reset()
			k.text = nil
		case 1:
			if len(all) < 8 {
				all = append(all, kept{k.h.Copy(), bytes.Clone(k.text)})
			}
		default:
			more := row.Text(row.Below(150))
			k.h.Write(more)
			k.text = append(k.text, more...)
		}
		k = &all[row.Below(len(all))]
		holds(t, "any row of calls", k.h, k.text)
	}
}

// P3.8, P0.3: nothing is written into a text or a key, nor into the room behind its end, and what stands in that room counts for nothing.
func TestTextsKept(t *testing.T) {
	row := chance.Row(19)
	for _, n := range lengths {
		text, whole := row.Roomy(n)
		before := bytes.Clone(whole)
		want, code := api.Hash(sha256.Sum256(text)), modelCode(text, text)
		h := sha.New()
		h.Write(text)
		list := [][]byte{text, text, []byte("room")}
		if h.Sum() != want || sha.Sum(text) != want || sha.Sum(list[:1]...) != want {
			t.Errorf("the room behind %d bytes counts", n)
		}
		if sha.HMAC(text, text) != code || sha.HMAC(text, list[:1]...) != code {
			t.Errorf("the room behind a key of %d bytes counts", n)
		}
		if !bytes.Equal(whole, before) {
			t.Errorf("a text of %d bytes, or its room, was written to", n)
		}
		if len(list) != 3 || !bytes.Equal(list[0], text) || !bytes.Equal(list[1], text) || string(list[2]) != "room" {
			t.Error("the list of parts, or its room, was written to")
		}
	}
}

// P3.8: who writes over a list that was handed to Write changes nothing.
func TestWrittenOver(t *testing.T) {
	row := chance.Row(20)
	for _, n := range lengths {
		text, whole := row.Roomy(n)
		kept := bytes.Clone(text)
		h := sha.New()
		h.Write(text)
		clear(whole)
		holds(t, "written over", h, kept)
		holds(t, "written over, a copy", h.Copy(), kept)
		for i := range whole {
			whole[i] = 0xee
		}
		h.Write(whole[:1])
		holds(t, "written over, and more", h, append(kept, 0xee))
	}
}

// P3.8, P0.6: two hashers, and the calls without one, have nothing to do with one another.
func TestHashersApart(t *testing.T) {
	first, second := sha.New(), sha.New()
	first.Write([]byte("abc"))
	holds(t, "another hasher", second, nil)
	second.Write(make([]byte, 70))
	second.Reset()
	sha.Sum([]byte("x"))
	sha.HMAC([]byte("y"), []byte("z"))
	holds(t, "the first", first, []byte("abc"))
	if digits(sha.Sum()) != emptyDigest {
		t.Error("Sum sees what hashers were handed")
	}
}
