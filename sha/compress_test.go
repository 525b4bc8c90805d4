package sha_test

import (
	"bytes"
	"math"
	"testing"

	"waybill/api"
	"waybill/chance"
	"waybill/sha"
)

// P3.3: Start by the chapter's words, and by its rule.
func TestStart(t *testing.T) {
	got := sha.Start()
	if got != [8]uint32{0x6a09e667, 0xbb67ae85, 0x3c6ef372, 0xa54ff53a, 0x510e527f, 0x9b05688c, 0x1f83d9ab, 0x5be0cd19} {
		t.Errorf("Start = %x", got)
	}
	if got != [8]uint32(modelRoots(8, 2)) {
		t.Errorf("Start = %x, not the roots of the primes", got)
	}
	got[0] = 1
	if sha.Start() == got {
		t.Error("who writes over an answer changes the next one")
	}
}

// P3.3: any state and any block, edges among them.
func TestCompress(t *testing.T) {
	row := chance.Row(2)
	steps := modelRoots(64, 3)
	for i := range 300 {
		state, text := anyState(&row), row.Text(block)
		switch i % 5 {
		case 1:
			text = make([]byte, block)
		case 2:
			text = bytes.Repeat([]byte{0xff}, block)
		case 3:
			state = [8]uint32{}
		}
		want := modelCompress(steps, state, text)
		if got, e := sha.Compress(state, text); got != want || e != api.OK {
			t.Fatalf("Compress(%x, %x) = %x, %v, want %x", state, text, got, e, want)
		}
	}
}

// P3.3: each of a block's and a state's bits counts.
func TestCompressBits(t *testing.T) {
	seen := map[[8]uint32]int{}
	for bit := range 8 * block {
		text := make([]byte, block)
		text[bit/8] = 1 << (bit % 8)
		state, _ := sha.Compress(sha.Start(), text)
		seen[state]++
	}
	for bit := range 256 {
		state := sha.Start()
		state[bit/32] ^= 1 << (bit % 32)
		state, _ = sha.Compress(state, make([]byte, block))
		seen[state]++
	}
	if len(seen) != 8*block+256 {
		t.Errorf("%d states", len(seen))
	}
}

func anyState(row *chance.Row) [8]uint32 {
	var state [8]uint32
	for i := range state {
		state[i] = uint32(row.Next())
	}
	return state
}

// P3.3, P0.2, P0.4: blocks that have not just 64 bytes, room or not.
func TestCompressWrong(t *testing.T) {
	row := chance.Row(3)
	for n := range 200 {
		if n == block {
			continue
		}
		text, _ := row.Roomy(n)
		if got, e := sha.Compress(sha.Start(), text); got != ([8]uint32{}) || e != api.ErrArg {
			t.Errorf("Compress of %d bytes = %x, %v", n, got, e)
		}
	}
	if got, e := sha.Compress(sha.Start(), nil); got != ([8]uint32{}) || e != api.ErrArg {
		t.Errorf("Compress of nil = %x, %v", got, e)
	}
}

// P3.3, P3.8: the caller's block and state stay as they are, the room behind the block neither counts nor changes.
func TestCompressKept(t *testing.T) {
	row := chance.Row(4)
	text, whole := row.Roomy(block)
	before, state := bytes.Clone(whole), anyState(&row)
	handed := state
	got, _ := sha.Compress(handed, text)
	if !bytes.Equal(whole, before) || handed != state {
		t.Error("what was handed in is changed")
	}
	if again, _ := sha.Compress(state, bytes.Clone(text)); again != got {
		t.Error("the room behind a block counts")
	}
}

// P3.2: the chapter's examples, and both sides of where a block more is needed.
func TestPadExamples(t *testing.T) {
	for _, c := range []struct {
		n    int
		want []byte
	}{
		{0, append([]byte{0x80}, make([]byte, 63)...)},
		{1, append(append([]byte{0x80}, make([]byte, 61)...), 8)},
		{54, []byte{0x80, 0, 0, 0, 0, 0, 0, 0, 0x01, 0xb0}},
		{55, []byte{0x80, 0, 0, 0, 0, 0, 0, 0x01, 0xb8}},
		{56, append(append([]byte{0x80}, make([]byte, 69)...), 0x01, 0xc0)},
		{64, append(append([]byte{0x80}, make([]byte, 61)...), 0x02, 0x00)},
		{65, append(append([]byte{0x80}, make([]byte, 60)...), 0x02, 0x08)},
	} {
		if got, e := sha.Pad(c.n); !bytes.Equal(got, c.want) || e != api.OK {
			t.Errorf("Pad(%d) = %x, %v, want %x", c.n, got, e, c.want)
		}
	}
}

// P3.2: what the model puts behind texts of so many bytes.
func TestPad(t *testing.T) {
	for n := range 1000 {
		want := modelFill(make([]byte, n))[n:]
		if got, e := sha.Pad(n); !bytes.Equal(got, want) || e != api.OK {
			t.Fatalf("Pad(%d) = %x, %v, want %x", n, got, e, want)
		}
	}
}

// P3.2: lengths up to the greatest int; eight times them is taken modulo 2^64.
func TestPadGreat(t *testing.T) {
	for _, c := range []struct {
		n, length int
		tail      uint64
	}{
		{math.MaxInt, 65, 0xfffffffffffffff8},
		{math.MaxInt - 7, 72, 0xffffffffffffffc0},
		{math.MaxInt - 8, 9, 0xffffffffffffffb8},
		{math.MaxInt - 63, 64, 0xfffffffffffffe00},
		{1 << 61, 64, 0},
		{1<<61 - 1, 65, 0xfffffffffffffff8},
		{1<<61 + 1, 63, 8},
		{1 << 62, 64, 0},
		{3<<61 + 55, 9, 0x1b8},
		{1 << 31, 64, 1 << 34},
		{1 << 32, 64, 1 << 35},
	} {
		got, e := sha.Pad(c.n)
		if e != api.OK || len(got) != c.length || got[0] != 0x80 {
			t.Fatalf("Pad(%d) = %x, %v", c.n, got, e)
		}
		var tail uint64
		for _, b := range got[c.length-8:] {
			tail = tail<<8 | uint64(b)
		}
		if tail != c.tail || len(bytes.Trim(got[1:c.length-8], "\x00")) != 0 {
			t.Errorf("Pad(%d) = %x", c.n, got)
		}
	}
}

// P3.2, P0.2: numbers below 0.
func TestPadWrong(t *testing.T) {
	for _, n := range []int{-1, -2, -55, -64, math.MinInt, math.MinInt + 1} {
		if got, e := sha.Pad(n); len(got) != 0 || e != api.ErrArg {
			t.Errorf("Pad(%d) = %x, %v", n, got, e)
		}
	}
}

// P3.8: Pad's answer is new memory, its room too.
func TestPadApart(t *testing.T) {
	for _, n := range []int{0, 55, 56, 64} {
		first, _ := sha.Pad(n)
		want := bytes.Clone(first)
		second, _ := sha.Pad(n)
		clear(first[:cap(first)])
		third, _ := sha.Pad(n)
		if !bytes.Equal(second, want) || !bytes.Equal(third, want) {
			t.Errorf("two answers of Pad(%d) share memory", n)
		}
	}
}

// P3.4: Sum is what Compress makes of Start and of the blocks of the text and of Pad of its length.
func TestSumByBlocks(t *testing.T) {
	row := chance.Row(5)
	for n := range 5*block + 2 {
		text := row.Text(n)
		filling, e := sha.Pad(n)
		if e != api.OK {
			t.Fatalf("Pad(%d): %v", n, e)
		}
		filled := append(bytes.Clone(text), filling...)
		state := sha.Start()
		for ; len(filled) >= block; filled = filled[block:] {
			if state, e = sha.Compress(state, filled[:block]); e != api.OK {
				t.Fatalf("Compress: %v", e)
			}
		}
		if len(filled) != 0 || bytesOf(state) != sha.Sum(text) {
			t.Fatalf("%d bytes by blocks: %x, want %x, %d bytes left", n, state, sha.Sum(text), len(filled))
		}
	}
}
