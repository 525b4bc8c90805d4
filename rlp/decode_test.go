package rlp_test

import (
	"bytes"
	"encoding/binary"
	"slices"
	"testing"

	"waybill/api"
	"waybill/chance"
	"waybill/rlp"
)

// checkDecode holds Decode against the model, and against P7.4 where it answers an item; it tells the error.
func checkDecode(t *testing.T, b []byte) api.Errno {
	t.Helper()
	want, wantE := modelDecode(b)
	it, e := rlp.Decode(b)
	if !same(it, want) || e != wantE {
		t.Errorf("Decode(% x): %d, want %d, or not the item that is wanted", short(b), e, wantE)
	}
	if e != api.OK {
		return e
	}
	if e := rlp.Check(it); e != api.OK {
		t.Errorf("Check of Decode(% x): %d", short(b), e)
	}
	if again, e := rlp.Encode(it); !bytes.Equal(again, b) || e != api.OK {
		t.Errorf("Encode of Decode(% x): % x, %d", short(b), short(again), e)
	}
	return api.OK
}

// checkRefused wants just that error of Decode, and nothing beside it.
func checkRefused(t *testing.T, b []byte, want api.Errno) {
	t.Helper()
	if it, e := rlp.Decode(b); e != want || !isNothing(it) {
		t.Errorf("Decode(% x): %d, want %d, or an item beside it", short(b), e, want)
	}
	checkDecode(t, b)
}

// faults are texts with one thing wrong at their first item, and the error. The room ends with the text.
func faults() map[string]api.Errno {
	filler := func(n int) string { return string(filled(n)) }
	return map[string]api.Errno{
		// 2: the length's bytes are not all there
		"\xb8": api.ErrRlpEnd, "\xb9": api.ErrRlpEnd, "\xb9\x01": api.ErrRlpEnd, "\xb9\x00": api.ErrRlpEnd, "\xbf": api.ErrRlpEnd, "\xbf\x00\x00\x00\x00\x00\x00\x00": api.ErrRlpEnd, "\xbf\x01\x00\x00\x00\x00\x00\x00": api.ErrRlpEnd,
		"\xf8": api.ErrRlpEnd, "\xf9": api.ErrRlpEnd, "\xf9\x01": api.ErrRlpEnd, "\xf9\x00": api.ErrRlpEnd, "\xff": api.ErrRlpEnd, "\xff\x00\x00\x00\x00\x00\x00\x00": api.ErrRlpEnd, "\xff\x01\x00\x00\x00\x00\x00\x00": api.ErrRlpEnd,
		// 2: zero bytes ahead, or a length below 56
		"\xb8\x00": api.ErrRlpSize, "\xb8\x01a": api.ErrRlpSize, "\xb8\x05aaaaa": api.ErrRlpSize, "\xb8\x37" + filler(55): api.ErrRlpSize, "\xb8\x37": api.ErrRlpSize, "\xb9\x00\x38" + filler(56): api.ErrRlpSize, "\xb9\x00\xff" + filler(255): api.ErrRlpSize, "\xb9\x00\x00": api.ErrRlpSize, "\xb9\x00\xff": api.ErrRlpSize,
		"\xba\x00\x01\x00" + filler(256): api.ErrRlpSize, "\xbf\x00\x00\x00\x00\x00\x00\x00\x38" + filler(56): api.ErrRlpSize, "\xbf\x00\xff\xff\xff\xff\xff\xff\xff": api.ErrRlpSize,
		"\xf8\x00": api.ErrRlpSize, "\xf8\x01\x80": api.ErrRlpSize, "\xf8\x37" + filler(55): api.ErrRlpSize, "\xf8\x37": api.ErrRlpSize, "\xf9\x00\x38" + filler(56): api.ErrRlpSize, "\xf9\x00\xff" + filler(255): api.ErrRlpSize, "\xf9\x00\x00": api.ErrRlpSize,
		"\xfa\x00\x01\x00" + filler(256): api.ErrRlpSize, "\xff\x00\x00\x00\x00\x00\x00\x00\x38" + filler(56): api.ErrRlpSize, "\xff\x00\xff\xff\xff\xff\xff\xff\xff": api.ErrRlpSize,
		// 3: the room is too small
		"\x81": api.ErrRlpEnd, "\x82a": api.ErrRlpEnd, "\x82\x80": api.ErrRlpEnd, "\xb7": api.ErrRlpEnd, "\xb7" + filler(54): api.ErrRlpEnd, "\xb8\x38": api.ErrRlpEnd, "\xb8\x38" + filler(55): api.ErrRlpEnd, "\xb9\x01\x00" + filler(255): api.ErrRlpEnd, "\xba\x01\x00\x00" + filler(65535): api.ErrRlpEnd,
		"\xc1": api.ErrRlpEnd, "\xc2\x80": api.ErrRlpEnd, "\xc2\x81": api.ErrRlpEnd, "\xf7": api.ErrRlpEnd, "\xf7" + filler(54): api.ErrRlpEnd, "\xf8\x38": api.ErrRlpEnd, "\xf8\x38" + filler(55): api.ErrRlpEnd, "\xf9\x01\x00" + filler(255): api.ErrRlpEnd, "\xfa\x01\x00\x00" + filler(65535): api.ErrRlpEnd,
		// 4: a single byte below 80 with a head
		"\x81\x00": api.ErrRlpByte, "\x81\x05": api.ErrRlpByte, "\x81\x7f": api.ErrRlpByte,
	}
}

// P7.3: the example 3.
func TestRefusedExamples(t *testing.T) {
	for _, c := range []struct {
		b    string
		want api.Errno
	}{
		{"", api.ErrRlpEnd}, {"81", api.ErrRlpEnd}, {"81 05", api.ErrRlpByte}, {"80 00", api.ErrRlpRest}, {"b8 05 6161616161", api.ErrRlpSize}, {"b8", api.ErrRlpEnd}, {"bf ffffffffffffffff", api.ErrRlpEnd},
		{"c1 81", api.ErrRlpEnd}, {"c2 81 05", api.ErrRlpByte}, {"c1 80 00", api.ErrRlpRest}, {"c1 80 ff", api.ErrRlpRest},
	} {
		checkRefused(t, digits(c.b), c.want)
	}
	checkRefused(t, slices.Concat(digits("b9 00 38"), filled(56)), api.ErrRlpSize)
	checkRefused(t, nil, api.ErrRlpEnd)
}

// P7.3: each of the errors 2 to 4, at the first item and within lists, at their fronts and behind other items.
func TestFaults(t *testing.T) {
	for fault, want := range faults() {
		b := []byte(fault)
		checkRefused(t, b, want)
		ahead := digits("05 80 c0 83616263")
		for range 3 {
			alone := within(1, b)
			checkRefused(t, alone, want)
			behind := within(1, slices.Concat(ahead, b))
			checkRefused(t, behind, want)
			checkRefused(t, append(alone, 0x80), want) // the first thing that is wrong, not the rest behind
			b = behind
		}
	}
}

// P7.3: a room that ends within a list is used up there, whatever stands behind it.
func TestRooms(t *testing.T) {
	for _, c := range []struct {
		b    string
		want api.Errno
	}{
		{"c2 82 61 61", api.ErrRlpEnd}, {"c3 c1 81 80", api.ErrRlpEnd}, {"c3 c2 81 80", api.OK}, {"c4 c2 81 80 80", api.OK}, {"c1 b8 38", api.ErrRlpEnd}, {"c2 b9 01 00", api.ErrRlpEnd}, {"c2 b8 00", api.ErrRlpSize},
		{"c2 c2 80 80", api.ErrRlpEnd}, {"c2 c1 80 80", api.ErrRlpRest}, {"c3 c1 80 80", api.OK}, {"c1 c1 80", api.ErrRlpEnd}, {"c2 c0 c1 80", api.ErrRlpEnd}, {"c0 c0", api.ErrRlpRest}, {"05 05", api.ErrRlpRest}, {"81 80 80", api.ErrRlpRest},
		{"c3 81 05 81", api.ErrRlpByte}, {"c3 b8 37 81", api.ErrRlpSize}, {"c2 81 05 00", api.ErrRlpByte}, {"c4 c2 81 05 81", api.ErrRlpByte}, {"c4 c1 81 81 05", api.ErrRlpEnd}, {"c5 c1 81 81 05 ff", api.ErrRlpEnd},
	} {
		b := digits(c.b)
		if it, e := rlp.Decode(b); e != c.want || e != api.OK && !isNothing(it) {
			t.Errorf("Decode(% x): %d, want %d", b, e, c.want)
		}
		checkDecode(t, b)
	}
}

// P7.3: lengths of all widths up to eight bytes, beyond all ints too.
func TestLengths(t *testing.T) {
	lengths := []uint64{
		0, 1, 55, 56, 57, 255, 256, 1<<16 - 1, 1 << 16, 1<<24 - 1, 1 << 24, 1<<31 - 1, 1 << 31, 1<<32 - 1, 1 << 32, 1<<32 + 56, 1 << 40, 1 << 48, 1 << 56,
		1<<63 - 10, 1<<63 - 9, 1<<63 - 1, 1 << 63, 1<<63 + 1, 1<<63 + 56, 1<<64 - 256, 1<<64 - 57, 1<<64 - 56, 1<<64 - 10, 1<<64 - 9, 1<<64 - 8, 1<<64 - 1,
	}
	for _, first := range []byte{0xb7, 0xf7} {
		for _, length := range lengths {
			all := binary.BigEndian.AppendUint64(nil, length)
			for width := 1; width <= 8; width++ {
				head := append([]byte{first + byte(width)}, all[8-width:]...)
				for _, n := range []int{0, 55, 56, 57, 255, 256, 257} {
					b := slices.Concat(head, bytes.Repeat([]byte{0x80}, n))
					checkDecode(t, b)
					checkDecode(t, slices.Concat(modelHead(0xc0, len(b)), b))
				}
			}
		}
	}
	for _, head := range []string{"bf ffffffffffffffff", "ff ffffffffffffffff", "bf 8000000000000000", "ff 8000000000000000", "bf 7fffffffffffffff", "ff 7ffffffffffffff7", "bb ffffffff", "fb 80000000"} {
		checkRefused(t, slices.Concat(digits(head), filled(300)), api.ErrRlpEnd)
	}
}

// P7.3: a length, a byte less and a byte more behind the head.
func TestRoom(t *testing.T) {
	for _, n := range edges() {
		whole := slices.Concat(modelHead(0x80, n), filled(n))
		if e := checkDecode(t, whole); e != api.OK {
			t.Errorf("a text of %d bytes: %d", n, e)
		}
		checkRefused(t, append(whole, 0x80), api.ErrRlpRest)
		checkRefused(t, whole[:len(whole)-1], api.ErrRlpEnd)

		whole = slices.Concat(modelHead(0xc0, n), bytes.Repeat([]byte{0x80}, n))
		if e := checkDecode(t, whole); e != api.OK {
			t.Errorf("a list of %d bytes: %d", n, e)
		}
		checkRefused(t, append(whole, 0x80), api.ErrRlpRest)
		checkRefused(t, whole[:len(whole)-1], api.ErrRlpEnd)
	}
}

// P7.3: a list within 1024 lists is refused, once its own head is right; the example 4.
func TestDecodeDeep(t *testing.T) {
	for _, c := range []struct {
		lists int
		b     string
		want  api.Errno
	}{
		{1024, "", api.OK}, {1025, "", api.ErrRlpDeep}, {1023, "c0", api.OK}, {1024, "c0", api.ErrRlpDeep}, {1024, "80", api.OK}, {1024, "05 80 81 80", api.OK}, {1025, "80", api.ErrRlpDeep}, {5000, "", api.ErrRlpDeep},
		{1024, "05 c0", api.ErrRlpDeep}, {1024, "c1", api.ErrRlpEnd}, {1024, "c1 81", api.ErrRlpDeep}, {1024, "f8", api.ErrRlpEnd}, {1024, "f8 01 80", api.ErrRlpSize}, {1024, "ff ffffffffffffffff", api.ErrRlpEnd}, {1024, "81 05", api.ErrRlpByte}, {1024, "81 05 c0", api.ErrRlpByte}, {1024, "c0 81 05", api.ErrRlpDeep}, {1024, "81", api.ErrRlpEnd},
		{1024, "c1 80", api.ErrRlpDeep}, {1023, "c0 c0 c0 81 80", api.OK}, {1022, "c0 c1 c0 c0", api.OK}, {1022, "c0 c2 c1 c0 c0", api.ErrRlpDeep}, {1022, "c1 c0 c1 81", api.ErrRlpEnd},
	} {
		b := within(c.lists, digits(c.b))
		it, e := rlp.Decode(b)
		if e != c.want || e != api.OK && !isNothing(it) {
			t.Errorf("%s within %d lists: %d, want %d", c.b, c.lists, e, c.want)
		}
		checkDecode(t, b)
	}
	checkRefused(t, append(within(1025, nil), 0), api.ErrRlpDeep)
	checkRefused(t, append(within(1024, nil), 0), api.ErrRlpRest)
	twice := within(1023, nil)
	if e := checkDecode(t, within(1, append(twice, twice...))); e != api.OK {
		t.Errorf("1024 lists, twice: %d", e)
	}
}

// P7.3, P0.7: MaxInput bytes are read, one more is refused, whatever they are.
func TestDecodeLong(t *testing.T) {
	long := make([]byte, api.MaxInput+1)
	for _, first := range []string{"", "05", "80", "81 05", "ba ff ff fd", "fa ff ff fd", "ff"} {
		clear(long)
		copy(long, digits(first))
		checkRefused(t, long, api.ErrLong)
	}
	most := slices.Concat(digits("ba ff ff fc"), filled(api.MaxInput-4))
	it, e := rlp.Decode(most)
	if e != api.OK || !same(it, api.Item{Data: most[4:]}) {
		t.Errorf("a text of MaxInput bytes: %d", e)
	}
	inner := slices.Concat(digits("ba 03 ff fb"), filled(1<<18-5)) // with its head, 2^18 - 1 bytes
	held := slices.Concat(bytes.Repeat(inner, 64), filled(60))
	copy(held[len(held)-60:], digits("b8 3a"))
	if e := checkDecode(t, slices.Concat(digits("fa ff ff fc"), held)); e != api.OK {
		t.Errorf("a list of MaxInput bytes: %d", e)
	}
	checkRefused(t, make([]byte, api.MaxInput), api.ErrRlpRest)
	checkRefused(t, most[:api.MaxInput-1], api.ErrRlpEnd)
}

// P7.3, P7.4: all texts of up to two bytes, and all of up to four telling bytes.
func TestShortTexts(t *testing.T) {
	for first := range 256 {
		checkDecode(t, []byte{byte(first)})
		for second := range 256 {
			checkDecode(t, []byte{byte(first), byte(second)})
		}
	}
	seen := map[api.Errno]int{}
	eachShort(4, func(b []byte) { seen[checkDecode(t, b)]++ })
	for _, e := range []api.Errno{api.OK, api.ErrRlpEnd, api.ErrRlpByte, api.ErrRlpSize, api.ErrRlpRest} {
		if seen[e] == 0 {
			t.Errorf("%d never comes", e)
		}
	}
}

// P7.3, P7.4: trees by chance, spoilt.
func TestSpoilt(t *testing.T) {
	row := chance.Row(702)
	seen := map[api.Errno]int{}
	for range 20000 {
		b := modelBytes(anyTree(&row, 4))
		seen[checkDecode(t, spoilt(&row, b))]++
	}
	for _, e := range []api.Errno{api.OK, api.ErrRlpEnd, api.ErrRlpByte, api.ErrRlpSize, api.ErrRlpRest} {
		if seen[e] < 20 {
			t.Errorf("%d comes only %d times", e, seen[e])
		}
	}
}

// P7.4: no item's bytes begin another one's: what is cut ends too early, what is longer has bytes left.
func TestNoBeginnings(t *testing.T) {
	row := chance.Row(703)
	for range 300 {
		b := modelBytes(anyTree(&row, 3))
		for n := range min(len(b), 300) {
			if it, e := rlp.Decode(b[:n]); e != api.ErrRlpEnd || !isNothing(it) {
				t.Errorf("Decode(% x), cut off at %d: %d", short(b), n, e)
			}
		}
		if it, e := rlp.Decode(append(b, row.Text(1+row.Below(5))...)); e != api.ErrRlpRest || !isNothing(it) {
			t.Errorf("Decode(% x), with bytes behind: %d", short(b), e)
		}
	}
}
