package keccak_test

import (
	"bytes"
	"crypto/sha3"
	"encoding/hex"
	"math/bits"
	"testing"

	"waybill/api"
	"waybill/chance"
)

const block = 136

// lanesXY: the lanes by x and y, as the chapter names them.
type lanesXY [5][5]uint64

func byXY(lanes [25]uint64) lanesXY {
	var a lanesXY
	for i, v := range lanes {
		a[i%5][i/5] = v
	}
	return a
}

func (a lanesXY) row() [25]uint64 {
	var lanes [25]uint64
	for i := range lanes {
		lanes[i] = a[i%5][i/5]
	}
	return lanes
}

// step1 to step4: a round's steps word for word, each from all lanes ahead to all lanes behind.

func step1(a lanesXY) lanesXY {
	var c [5]uint64
	for x := range 5 {
		c[x] = a[x][0] ^ a[x][1] ^ a[x][2] ^ a[x][3] ^ a[x][4]
	}
	var b lanesXY
	for x := range 5 {
		for y := range 5 {
			b[x][y] = a[x][y] ^ c[(x+4)%5] ^ bits.RotateLeft64(c[(x+1)%5], 1)
		}
	}
	return b
}

func step2(a lanesXY, sign int) lanesXY {
	turns := modelTurns()
	var b lanesXY
	for x := range 5 {
		for y := range 5 {
			b[x][y] = bits.RotateLeft64(a[x][y], sign*turns[x][y])
		}
	}
	return b
}

func step3(a lanesXY) lanesXY {
	var b lanesXY
	for x := range 5 {
		for y := range 5 {
			b[y][(2*x+3*y)%5] = a[x][y]
		}
	}
	return b
}

func step4(a lanesXY) lanesXY {
	var b lanesXY
	for x := range 5 {
		for y := range 5 {
			b[x][y] = a[x][y] ^ (^a[(x+1)%5][y] & a[(x+2)%5][y])
		}
	}
	return b
}

// modelTurns makes the turns by the standard's rule and not by the table, so that a slip of the pen there is seen.
func modelTurns() [5][5]int {
	var r [5][5]int
	x, y := 1, 0
	for t := range 24 {
		r[x][y] = (t + 1) * (t + 2) / 2 % 64
		x, y = y, (2*x+3*y)%5
	}
	return r
}

// modelMarks makes the rounds' numbers by the standard's rule: a shift register of 8 bits, seven of its bits a round.
func modelMarks() [24]uint64 {
	var marks [24]uint64
	register := 1
	for round := range marks {
		for j := range 7 {
			if register&1 == 1 {
				marks[round] |= 1 << (1<<j - 1)
			}
			register <<= 1
			if register > 255 {
				register ^= 0x171
			}
		}
	}
	return marks
}

func modelPermute(lanes [25]uint64) [25]uint64 {
	a := byXY(lanes)
	for _, mark := range modelMarks() {
		a = step4(step3(step2(step1(a), 1)))
		a[0][0] ^= mark
	}
	return a.row()
}

// modelBack undoes the permutation: step 1 has the order 192, step 3 24, step 4 4, so that each one, done once less often, undoes itself.
func modelBack(lanes [25]uint64) [25]uint64 {
	a := byXY(lanes)
	marks := modelMarks()
	for round := 23; round >= 0; round-- {
		a[0][0] ^= marks[round]
		for range 3 {
			a = step4(a)
		}
		for range 23 {
			a = step3(a)
		}
		a = step2(a, -1)
		for range 191 {
			a = step1(a)
		}
	}
	return a.row()
}

// modelSum fills the text up and takes it in, block by block, as the chapter has it.
func modelSum(first byte, text []byte) api.Hash {
	filled := append(bytes.Clone(text), first)
	for len(filled)%block != 0 {
		filled = append(filled, 0)
	}
	filled[len(filled)-1] |= 0x80
	var lanes [25]uint64
	for ; len(filled) > 0; filled = filled[block:] {
		for i := range 17 {
			for j := range 8 {
				lanes[i] ^= uint64(filled[8*i+j]) << (8 * j)
			}
		}
		lanes = modelPermute(lanes)
	}
	var h api.Hash
	for i := range 4 {
		for j := range 8 {
			h[8*i+j] = byte(lanes[i] >> (8 * j))
		}
	}
	return h
}

func modelKeccak(text []byte) api.Hash { return modelSum(0x01, text) }

func anyLanes(row *chance.Row) [25]uint64 {
	var lanes [25]uint64
	for i := range lanes {
		lanes[i] = row.Next()
	}
	return lanes
}

func hash(t *testing.T, digits string) api.Hash {
	t.Helper()
	b, err := hex.DecodeString(digits)
	if err != nil || len(b) != 32 {
		t.Fatalf("no hash: %s", digits)
	}
	return api.Hash(b)
}

// The model itself, by another's SHA3-256: an error in it would hide one in the program.
func TestModel(t *testing.T) {
	row := chance.Row(1)
	for n := range 3*block + 2 {
		text := row.Text(n)
		if modelSum(0x06, text) != api.Hash(sha3.Sum256(text)) {
			t.Fatalf("the model's SHA3-256 of %d bytes", n)
		}
	}
	for range 20 {
		lanes := anyLanes(&row)
		if modelBack(modelPermute(lanes)) != lanes || modelPermute(modelBack(lanes)) != lanes {
			t.Fatal("the model's way back")
		}
	}
}
