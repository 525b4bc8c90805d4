package sha_test

import (
	"bytes"
	"crypto/sha256"
	"encoding/hex"
	"math/big"
	"testing"

	"waybill/api"
	"waybill/chance"
)

const block = 64

// modelRoots makes the words of the first primes' roots by the chapter's rule and not by a table, so that a slip of the pen there is seen.
func modelRoots(n int, power int64) []uint32 {
	var words []uint32
	for p := int64(2); len(words) < n; p++ {
		if big.NewInt(p).ProbablyPrime(20) {
			words = append(words, rootWord(p, power))
		}
	}
	return words
}

// rootWord tells the lowest 32 bits of the whole part of 2^32 times a root of p: that of p times 2^(32 power), found bit by bit.
func rootWord(p, power int64) uint32 {
	of := new(big.Int).Lsh(big.NewInt(p), uint(32*power))
	root := new(big.Int)
	for bit := 48; bit >= 0; bit-- {
		next := new(big.Int).SetBit(root, bit, 1)
		if new(big.Int).Exp(next, big.NewInt(power), nil).Cmp(of) <= 0 {
			root = next
		}
	}
	return uint32(root.Uint64())
}

// turned and moved: the chapter's R and S, bit by bit.

func turned(x uint32, n int) uint32 {
	var y uint32
	for i := range 32 {
		y |= x >> ((i + n) % 32) & 1 << i
	}
	return y
}

func moved(x uint32, n int) uint32 {
	var y uint32
	for i := range 32 - n {
		y |= x >> (i + n) & 1 << i
	}
	return y
}

// modelCompress: the state behind a block, word for word as the chapter has it.
func modelCompress(steps []uint32, state [8]uint32, block []byte) [8]uint32 {
	w := make([]uint32, 64)
	for t := range 16 {
		w[t] = uint32(block[4*t])<<24 + uint32(block[4*t+1])<<16 + uint32(block[4*t+2])<<8 + uint32(block[4*t+3])
	}
	for t := 16; t < 64; t++ {
		s0 := turned(w[t-15], 7) ^ turned(w[t-15], 18) ^ moved(w[t-15], 3)
		s1 := turned(w[t-2], 17) ^ turned(w[t-2], 19) ^ moved(w[t-2], 10)
		w[t] = s1 + w[t-7] + s0 + w[t-16]
	}
	v := state
	for t := range 64 {
		a, b, c, e, f, g, h := v[0], v[1], v[2], v[4], v[5], v[6], v[7]
		t1 := h + (turned(e, 6) ^ turned(e, 11) ^ turned(e, 25)) + ((e & f) ^ (^e & g)) + steps[t] + w[t]
		t2 := (turned(a, 2) ^ turned(a, 13) ^ turned(a, 22)) + ((a & b) ^ (a & c) ^ (b & c))
		copy(v[1:], v[:7])
		v[4] += t1
		v[0] = t1 + t2
	}
	for i := range v {
		v[i] += state[i]
	}
	return v
}

// modelFill fills a text as the chapter has it: its length in bits comes from math/big.
func modelFill(text []byte) []byte {
	filled := append(bytes.Clone(text), 0x80)
	for (len(filled)+8)%block != 0 {
		filled = append(filled, 0)
	}
	length := new(big.Int).Mul(big.NewInt(8), big.NewInt(int64(len(text))))
	return append(filled, length.FillBytes(make([]byte, 8))...)
}

func modelSum(text []byte) api.Hash {
	steps := modelRoots(64, 3)
	state := [8]uint32(modelRoots(8, 2))
	for filled := modelFill(text); len(filled) > 0; filled = filled[block:] {
		state = modelCompress(steps, state, filled[:block])
	}
	return bytesOf(state)
}

// bytesOf tells a state's words, four bytes each, the highest first.
func bytesOf(state [8]uint32) api.Hash {
	var h api.Hash
	for i, w := range state {
		h[4*i], h[4*i+1], h[4*i+2], h[4*i+3] = byte(w>>24), byte(w>>16), byte(w>>8), byte(w)
	}
	return h
}

func digits(h api.Hash) string { return hex.EncodeToString(h[:]) }

// counting tells the bytes 0, 1, 2, .. so many.
func counting(n int) []byte {
	text := make([]byte, n)
	for i := range text {
		text[i] = byte(i)
	}
	return text
}

// The model itself, by another's SHA-256: an error in it would hide one in the program.
func TestModel(t *testing.T) {
	row := chance.Row(1)
	for n := range 2*block + 2 {
		text := row.Text(n)
		if modelSum(text) != api.Hash(sha256.Sum256(text)) {
			t.Fatalf("the model's digest of %d bytes", n)
		}
	}
}
