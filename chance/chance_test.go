package chance_test

import (
	"bytes"
	"testing"

	"waybill/api"
	"waybill/chance"
)

// The first numbers of the row 0, as splitmix64 has them.
func TestNext(t *testing.T) {
	row := chance.Row(0)
	for i, want := range []uint64{0xe220a8397b1dcdaf, 0x6e789e6aa1b965f4, 0x06c45d188009454f} {
		if got := row.Next(); got != want {
			t.Errorf("number %d = %x, want %x", i, got, want)
		}
	}
}

func TestSameAgain(t *testing.T) {
	first, second, other := chance.Row(7), chance.Row(7), chance.Row(8)
	for range 100 {
		a, b := first.Number(), second.Number()
		if a != b {
			t.Fatalf("one row tells %v and %v", a, b)
		}
	}
	text := first.Text(50)
	if !bytes.Equal(text, second.Text(50)) || bytes.Equal(text, other.Text(50)) {
		t.Error("a row's text is its own, and the same again")
	}
}

func TestBounds(t *testing.T) {
	row := chance.Row(1)
	var seen [5]int
	for range 1000 {
		seen[row.Below(5)]++
	}
	for v, n := range seen {
		if n == 0 {
			t.Errorf("%d never comes", v)
		}
	}
	for _, n := range []int{0, -1, -1 << 63} {
		if row.Below(n) != 0 || len(row.Text(n)) != 0 {
			t.Errorf("a bound of %d", n)
		}
	}
}

// The room is there, and the text lies at its beginning.
func TestRoomy(t *testing.T) {
	row := chance.Row(3)
	for _, n := range []int{0, 1, 100, -1} {
		text, whole := row.Roomy(n)
		if len(text) != max(n, 0) || len(whole) <= len(text) || cap(text) < len(whole) || &text[:1][0] != &whole[0] {
			t.Errorf("%d bytes: %d of %d", n, len(text), len(whole))
		}
	}
}

// The parts are the text again; parts without bytes and several parts come.
func TestParts(t *testing.T) {
	row := chance.Row(4)
	var empty, several int
	for n := range 500 {
		text := row.Text(n)
		parts := row.Parts(text)
		if !bytes.Equal(bytes.Join(parts, nil), text) {
			t.Fatalf("%d bytes in parts", n)
		}
		if len(parts) > 2 {
			several++
		}
		for _, part := range parts {
			if len(part) == 0 {
				empty++
			}
		}
	}
	if empty == 0 || several == 0 {
		t.Errorf("%d parts without bytes, %d times several", empty, several)
	}
}

// Numbers of one limb to four come, and the edges among them.
func TestNumber(t *testing.T) {
	row := chance.Row(2)
	var limbs [5]int
	edges := map[uint64]int{}
	for range 1000 {
		x := row.Number()
		limbs[length(x)]++
		edges[x[0]]++
	}
	if limbs[0] == 0 || limbs[1] == 0 || limbs[2] == 0 || limbs[3] == 0 || limbs[4] == 0 {
		t.Errorf("so many of each length: %v", limbs)
	}
	for _, edge := range []uint64{0, 1 << 63, 1<<64 - 1} {
		if edges[edge] == 0 {
			t.Errorf("%x never comes", edge)
		}
	}
}

func length(x api.U256) int {
	n := 4
	for n > 0 && x[n-1] == 0 {
		n--
	}
	return n
}
