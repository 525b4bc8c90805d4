package keccak

import "math/bits"

// turns: by how many bits step 2 turns the lane x + 5y.
var turns = [25]int{
	0, 1, 62, 28, 27,
	36, 44, 6, 55, 20,
	3, 10, 43, 25, 39,
	41, 45, 15, 21, 8,
	18, 2, 61, 56, 14,
}

// marks: each round's number.
var marks = [24]uint64{
	0x0000000000000001, 0x0000000000008082, 0x800000000000808a, 0x8000000080008000,
	0x000000000000808b, 0x0000000080000001, 0x8000000080008081, 0x8000000000008009,
	0x000000000000008a, 0x0000000000000088, 0x0000000080008009, 0x000000008000000a,
	0x000000008000808b, 0x800000000000008b, 0x8000000000008089, 0x8000000000008003,
	0x8000000000008002, 0x8000000000000080, 0x000000000000800a, 0x800000008000000a,
	0x8000000080008081, 0x8000000000008080, 0x0000000080000001, 0x8000000080008008,
}

// Permute is Keccak-f[1600]: the 25 lanes in the order x + 5 y.
func Permute(lanes [25]uint64) [25]uint64 {
	var other [25]uint64
	for i := 0; i < len(marks); i += 2 {
		round(&other, &lanes, marks[i])
		round(&lanes, &other, marks[i+1])
	}
	return lanes
}

// round does all five steps. It is written out lane by lane, since loops over x and y take four times as long and every hash waits for it.
func round(to, a *[25]uint64, mark uint64) {
	c0 := a[0] ^ a[5] ^ a[10] ^ a[15] ^ a[20]
	c1 := a[1] ^ a[6] ^ a[11] ^ a[16] ^ a[21]
	c2 := a[2] ^ a[7] ^ a[12] ^ a[17] ^ a[22]
	c3 := a[3] ^ a[8] ^ a[13] ^ a[18] ^ a[23]
	c4 := a[4] ^ a[9] ^ a[14] ^ a[19] ^ a[24]
	d0 := c4 ^ bits.RotateLeft64(c1, 1)
	d1 := c0 ^ bits.RotateLeft64(c2, 1)
	d2 := c1 ^ bits.RotateLeft64(c3, 1)
	d3 := c2 ^ bits.RotateLeft64(c4, 1)
	d4 := c3 ^ bits.RotateLeft64(c0, 1)
	// A lane's place here is the one that step 3 gives it: the lane 6 comes to 1, the lane 3 to 5.
	bend(to, 0, turn(a, 0, d0), turn(a, 6, d1), turn(a, 12, d2), turn(a, 18, d3), turn(a, 24, d4))
	bend(to, 5, turn(a, 3, d3), turn(a, 9, d4), turn(a, 10, d0), turn(a, 16, d1), turn(a, 22, d2))
	bend(to, 10, turn(a, 1, d1), turn(a, 7, d2), turn(a, 13, d3), turn(a, 19, d4), turn(a, 20, d0))
	bend(to, 15, turn(a, 4, d4), turn(a, 5, d0), turn(a, 11, d1), turn(a, 17, d2), turn(a, 23, d3))
	bend(to, 20, turn(a, 2, d2), turn(a, 8, d3), turn(a, 14, d4), turn(a, 15, d0), turn(a, 21, d1))
	to[0] ^= mark
}

// turn tells the lane i behind the steps 1 and 2.
func turn(a *[25]uint64, i int, change uint64) uint64 {
	return bits.RotateLeft64(a[i]^change, turns[i])
}

// bend is step 4 on the row of lanes that begins at y.
func bend(to *[25]uint64, y int, a, b, c, d, e uint64) {
	to[y] = a ^ (^b & c)
	to[y+1] = b ^ (^c & d)
	to[y+2] = c ^ (^d & e)
	to[y+3] = d ^ (^e & a)
	to[y+4] = e ^ (^a & b)
}
