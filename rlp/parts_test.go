package rlp_test

import (
	"bytes"
	"slices"
	"testing"

	"waybill/api"
	"waybill/chance"
	"waybill/rlp"
)

// checkSplit holds Split against the model and tells the error.
func checkSplit(t *testing.T, b []byte) api.Errno {
	t.Helper()
	wantList, wantHeld, wantRest, wantE := modelSplit(b)
	isList, held, rest, e := rlp.Split(b)
	if isList != wantList || !bytes.Equal(held, wantHeld) || !bytes.Equal(rest, wantRest) || e != wantE {
		t.Errorf("Split(% x) = %v, % x, % x, %d, want %v, % x, % x, %d", short(b), isList, short(held), short(rest), e, wantList, short(wantHeld), short(wantRest), wantE)
	}
	return e
}

// checkParts holds Parts against the model, and Join of them against P7.7; it tells the error.
func checkParts(t *testing.T, b []byte) api.Errno {
	t.Helper()
	want, wantE := modelParts(b)
	parts, e := rlp.Parts(b)
	if !sameTexts(parts, want) || e != wantE {
		t.Errorf("Parts(% x): %d parts, %d, want %d, %d, or not those that are wanted", short(b), len(parts), e, len(want), wantE)
	}
	if e != api.OK {
		return e
	}
	if again, e := rlp.Join(parts...); !bytes.Equal(again, b) || e != api.OK {
		t.Errorf("Join of Parts(% x) = % x, %d", short(b), short(again), e)
	}
	return api.OK
}

// P7.5: the example 5, and others.
func TestSplit(t *testing.T) {
	for _, c := range []struct {
		b          string
		list       bool
		held, rest string
		e          api.Errno
	}{
		{"83 64 6f 67 05", false, "64 6f 67", "05", api.OK}, {"c2 81 05 00", true, "81 05", "00", api.OK}, {"05 06", false, "05", "06", api.OK}, {"7f", false, "7f", "", api.OK}, {"80", false, "", "", api.OK}, {"80 80", false, "", "80", api.OK},
		{"81 80 00 00", false, "80", "00 00", api.OK}, {"c0", true, "", "", api.OK}, {"c0 c1", true, "", "c1", api.OK}, {"c1 05 81", true, "05", "81", api.OK}, {"c3 ff ff ff", true, "ff ff ff", "", api.OK}, {"c1 00", true, "00", "", api.OK},
		{"", false, "", "", api.ErrRlpEnd}, {"81 05", false, "", "", api.ErrRlpByte}, {"b8 01 61", false, "", "", api.ErrRlpSize}, {"c2 80", false, "", "", api.ErrRlpEnd}, {"f9 00 38", false, "", "", api.ErrRlpSize}, {"f9 00", false, "", "", api.ErrRlpEnd},
	} {
		b := digits(c.b)
		isList, held, rest, e := rlp.Split(b)
		if isList != c.list || !bytes.Equal(held, digits(c.held)) || !bytes.Equal(rest, digits(c.rest)) || e != c.e {
			t.Errorf("Split(% x) = %v, % x, % x, %d", b, isList, held, rest, e)
		}
		checkSplit(t, b)
	}
}

// P7.5, P7.6: each of the errors 1 to 4 of P7.3; in Parts at the list itself and at any of its items.
func TestPartsFaults(t *testing.T) {
	for fault, want := range faults() {
		b := []byte(fault)
		if e := checkSplit(t, b); e != want {
			t.Errorf("Split(% x): %d, want %d", short(b), e, want)
		}
		if e := checkParts(t, b); e != want {
			t.Errorf("Parts(% x): %d, want %d", short(b), e, want)
		}
		whole := within(1, b)
		if e := checkSplit(t, whole); e != api.OK {
			t.Errorf("Split of a list that holds % x: %d", short(b), e)
		}
		if e := checkParts(t, whole); e != want {
			t.Errorf("Parts of a list that holds % x: %d, want %d", short(b), e, want)
		}
		second := within(1, slices.Concat(digits("c2 81 05"), b))
		if e := checkParts(t, second); e != want {
			t.Errorf("Parts of a list whose second item is % x: %d, want %d", short(b), e, want)
		}
		if e := checkParts(t, within(2, b)); e != api.OK {
			t.Errorf("Parts looks into a list that holds % x: %d", short(b), e)
		}
		if e := checkParts(t, append(whole, 0x80)); e != api.ErrRlpRest {
			t.Errorf("Parts of a list that holds % x, a byte behind it: %d", short(b), e)
		}
	}
}

// P7.6: the example 5, and others: which error comes first.
func TestParts(t *testing.T) {
	for _, c := range []struct {
		b     string
		parts []string
		e     api.Errno
	}{
		{"c2 81 05", nil, api.ErrRlpByte}, {"c3 01 81 80", []string{"01", "81 80"}, api.OK}, {"05", nil, api.ErrRlpKind}, {"c0", nil, api.OK}, {"c1 80", []string{"80"}, api.OK}, {"c1 c0", []string{"c0"}, api.OK},
		{"c3 c2 81 05", []string{"c2 81 05"}, api.OK}, {"c4 00 c1 ff 7f", []string{"00", "c1 ff", "7f"}, api.OK}, {"c8 83 63 61 74 83 64 6f 67", []string{"83 63 61 74", "83 64 6f 67"}, api.OK},
		{"", nil, api.ErrRlpEnd}, {"81 05", nil, api.ErrRlpByte}, {"80", nil, api.ErrRlpKind}, {"80 00", nil, api.ErrRlpKind}, {"83 64 6f 67 05", nil, api.ErrRlpKind}, {"c0 00", nil, api.ErrRlpRest}, {"c2 81 05 00", nil, api.ErrRlpRest}, {"c1 81 80", nil, api.ErrRlpRest},
		{"c2 01 81", nil, api.ErrRlpEnd}, {"c3 01 81 05", nil, api.ErrRlpByte}, {"c4 01 81 05 81", nil, api.ErrRlpByte}, {"c4 81 05 b8 00", nil, api.ErrRlpByte}, {"c4 b8 00 81 05", nil, api.ErrRlpSize}, {"c2 c2 80", nil, api.ErrRlpEnd}, {"c3 80 c1 80", []string{"80", "c1 80"}, api.OK}, {"c2 80 c1", nil, api.ErrRlpEnd},
	} {
		b := digits(c.b)
		parts, e := rlp.Parts(b)
		if e != c.e || !slices.EqualFunc(parts, c.parts, func(part []byte, want string) bool { return bytes.Equal(part, digits(want)) }) {
			t.Errorf("Parts(% x) = % x, %d", b, parts, e)
		}
		checkParts(t, b)
	}
}

// P7.5, P7.6, P0.7: MaxInput bytes are read, one more is refused, whatever they are.
func TestPartsLong(t *testing.T) {
	for _, first := range []string{"", "05", "81 05", "c0", "fa ff ff fd"} {
		long := make([]byte, api.MaxInput+1)
		copy(long, digits(first))
		if e := checkSplit(t, long); e != api.ErrLong {
			t.Errorf("Split of what begins with %q: %d", first, e)
		}
		if e := checkParts(t, long); e != api.ErrLong {
			t.Errorf("Parts of what begins with %q: %d", first, e)
		}
	}
	most := slices.Concat(digits("fa ff ff fc ba ff ff f8"), filled(api.MaxInput-8))
	if e := checkSplit(t, most); e != api.OK {
		t.Errorf("Split of MaxInput bytes: %d", e)
	}
	if e := checkParts(t, most); e != api.OK {
		t.Errorf("Parts of MaxInput bytes: %d", e)
	}
	if e := checkSplit(t, make([]byte, api.MaxInput)); e != api.OK {
		t.Errorf("Split of MaxInput bytes: %d", e)
	}
}

// P7.5, P7.6, P7.7: all texts of up to two bytes, and all of up to four telling bytes.
func TestShortParts(t *testing.T) {
	for first := range 256 {
		for second := range 256 {
			checkSplit(t, []byte{byte(first), byte(second)})
			checkParts(t, []byte{byte(first), byte(second)})
		}
	}
	seen := map[api.Errno]int{}
	eachShort(4, func(b []byte) {
		checkSplit(t, b)
		seen[checkParts(t, b)]++
	})
	for _, e := range []api.Errno{api.OK, api.ErrRlpEnd, api.ErrRlpByte, api.ErrRlpSize, api.ErrRlpRest, api.ErrRlpKind} {
		if seen[e] == 0 {
			t.Errorf("%d never comes", e)
		}
	}
}

// P7.5, P7.6, P7.7: trees by chance, and spoilt ones.
func TestPartsOfTrees(t *testing.T) {
	row := chance.Row(704)
	for range 3000 {
		it := anyTree(&row, 4)
		b := modelBytes(it)
		checkSplit(t, b)
		checkParts(t, b)
		var parts [][]byte
		for _, inner := range it.Items {
			parts = append(parts, modelBytes(inner))
		}
		if it.List {
			if got, e := rlp.Parts(b); !sameTexts(got, parts) || e != api.OK {
				t.Errorf("Parts(% x): %d, or not the items' bytes", short(b), e)
			}
			if got, e := rlp.Join(parts...); !bytes.Equal(got, b) || e != api.OK {
				t.Errorf("Join of the items of % x = % x, %d", short(b), short(got), e)
			}
		}
		b = spoilt(&row, b)
		checkSplit(t, b)
		checkParts(t, b)
	}
	for range 3000 {
		b := slices.Concat(modelBytes(anyTree(&row, 2)), row.Text(row.Below(5)))
		checkSplit(t, b)
	}
}

// P7.7: the parts are not looked at; the head changes with their length.
func TestJoin(t *testing.T) {
	for _, c := range []struct {
		parts []string
		want  string
	}{
		{nil, "c0"}, {[]string{""}, "c0"}, {[]string{"", "", ""}, "c0"}, {[]string{"80"}, "c1 80"}, {[]string{"81", "05"}, "c2 81 05"}, {[]string{"ff"}, "c1 ff"}, {[]string{"01", "", "81 80"}, "c3 01 81 80"}, {[]string{"00 00", "b8"}, "c3 00 00 b8"},
	} {
		var parts [][]byte
		for _, part := range c.parts {
			parts = append(parts, digits(part))
		}
		if b, e := rlp.Join(parts...); !bytes.Equal(b, digits(c.want)) || e != api.OK {
			t.Errorf("Join(% x) = % x, %d, want %s", parts, b, e, c.want)
		}
	}
	row := chance.Row(705)
	for _, n := range edges() {
		whole := row.Text(n)
		want := slices.Concat(modelHead(0xc0, n), whole)
		if b, e := rlp.Join(whole); !bytes.Equal(b, want) || e != api.OK {
			t.Errorf("Join of %d bytes = % x, %d", n, short(b), e)
		}
		if b, e := rlp.Join(row.Parts(whole)...); !bytes.Equal(b, want) || e != api.OK {
			t.Errorf("Join of %d bytes in parts = % x, %d", n, short(b), e)
		}
	}
	if b, e := rlp.Join(nil, nil); !bytes.Equal(b, []byte{0xc0}) || e != api.OK {
		t.Errorf("Join of two times nil = % x, %d", b, e)
	}
}

// P7.7, P0.7: MaxInput bytes are answered, one more is refused.
func TestJoinLong(t *testing.T) {
	most := filled(api.MaxInput - 4)
	want := slices.Concat(digits("fa ff ff fc"), most)
	if b, e := rlp.Join(most); !bytes.Equal(b, want) || e != api.OK {
		t.Errorf("Join of MaxInput - 4 bytes: %d bytes, %d", len(b), e)
	}
	if b, e := rlp.Join(most[:5000], nil, most[5000:]); !bytes.Equal(b, want) || e != api.OK {
		t.Errorf("Join of MaxInput - 4 bytes in parts: %d bytes, %d", len(b), e)
	}
	for _, parts := range [][][]byte{{filled(api.MaxInput - 3)}, {most, {0}}, {{0}, most}, {filled(api.MaxInput)}, {filled(api.MaxInput + 1)}, {most, most}, slices.Repeat([][]byte{most}, 100)} {
		if b, e := rlp.Join(parts...); len(b) != 0 || e != api.ErrLong {
			t.Errorf("Join of %d parts, too long: %d bytes, %d", len(parts), len(b), e)
		}
	}
}
