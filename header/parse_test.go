package header_test

import (
	"bytes"
	"slices"
	"testing"

	"waybill/api"
	"waybill/chance"
	"waybill/header"
)

// checkParse holds Parse against its model (P19.3, P0.2), and what it takes against P19.4; where the tree has bytes, Decode too; it tells the error.
func checkParse(t *testing.T, it api.Item) api.Errno {
	t.Helper()
	want, wantE := modelParse(it)
	h, e := header.Parse(it)
	if e != wantE || !sameHeader(h, want) {
		t.Errorf("Parse(%v) = %+v, %d, want %+v, %d", it, h, e, want, wantE)
	}
	if e != api.OK {
		return e
	}
	if again, f := header.Item(h); !same(again, it) || f != api.OK || header.Check(h) != api.OK {
		t.Errorf("Item of Parse(%v): %v, %d", it, again, f)
	}
	return e
}

// checkDecode holds Decode against its model (P19.3, P0.2), and what it takes against P19.4 and P0.9; it tells the error.
func checkDecode(t *testing.T, b []byte) api.Errno {
	t.Helper()
	want, wantE := modelDecode(b)
	h, e := header.Decode(b)
	if e != wantE || !sameHeader(h, want) {
		t.Errorf("Decode(%x) = %+v, %d, want %+v, %d", short(b), h, e, want, wantE)
	}
	if e != api.OK {
		return e
	}
	if again, f := header.Encode(h); !bytes.Equal(again, b) || f != api.OK || header.Check(h) != api.OK {
		t.Errorf("Encode of Decode(%x): %x, %d", short(b), again, f)
	}
	return e
}

// wantParse wants just that error of Parse, and of Decode of the tree's bytes.
func wantParse(t *testing.T, it api.Item, want api.Errno) {
	t.Helper()
	if e := checkParse(t, it); e != want {
		t.Errorf("Parse(%v): %d, want %d", it, e, want)
	}
	wantDecode(t, modelBytes(it), want)
}

func wantDecode(t *testing.T, b []byte, want api.Errno) {
	t.Helper()
	if e := checkDecode(t, b); e != want {
		t.Errorf("Decode(%x): %d, want %d", short(b), e, want)
	}
}

// widths are those of the fields; -32 and -8 say that it is a number of at most so many bytes, 0 that it is Extra.
var widths = []int{32, 32, 20, 32, 32, 32, 256, -32, -8, -8, -8, -8, 0, 32, 8, -32, 32, -8, -8, 32, 32}

// P19.3: lists of each length, of right fields and of wrong ones.
func TestFieldCounts(t *testing.T) {
	all := modelItems(plain(4))
	for n := range 60 {
		good := slices.Concat(all, slices.Repeat([]api.Item{all[20]}, 40))[:n]
		tail := slices.Index(fieldCounts[:], n)
		want := api.ErrHdFields
		if tail >= 0 {
			want = api.OK
		}
		wantParse(t, list(good...), want)
		if h, _ := header.Parse(list(good...)); tail >= 0 && h.Tail != tail {
			t.Errorf("%d fields: tail %d", n, h.Tail)
		}
		for _, it := range []api.Item{text(), list(), text(0), filled(0, 32), filled(1, 32)} {
			e := checkParse(t, list(slices.Repeat([]api.Item{it}, n)...))
			if (e == api.ErrHdFields) != (tail < 0) {
				t.Errorf("%d items %v: %d", n, it, e)
			}
		}
	}
	wantParse(t, list(), api.ErrHdFields)
	wantParse(t, list(modelTree(plain(0))), api.ErrHdFields)
	wantParse(t, text(modelBytes(modelTree(plain(0)))...), api.ErrRlpKind)
}

// P19.3: texts of each length at each place, of each kind of first bytes.
func TestWidths(t *testing.T) {
	for tail, count := range fieldCounts {
		tree := modelTree(plain(tail))
		for i, width := range widths[:count] {
			for n := range 300 {
				for _, b := range []byte{0, 1, 0x80, 0xff} {
					want := api.OK
					switch {
					case width > 0 && n != width, width < 0 && n > -width:
						want = api.ErrRlpWide
					case width < 0 && n > 0 && b == 0:
						want = api.ErrRlpZero
					case width == 0 && n > 32:
						want = api.ErrHdExtra
					}
					if e := checkParse(t, replaced(tree, i, filled(b, n))); e != want {
						t.Errorf("tail %d, field %d, %d bytes %x: %d, want %d", tail, i, n, b, e, want)
					}
				}
			}
			for _, it := range []api.Item{list(), list(text()), list(filled(0, 32)), list(list()), list(filled(1, 300))} {
				wantParse(t, replaced(tree, i, it), api.ErrRlpKind)
			}
			wantDecode(t, modelBytes(replaced(tree, i, filled(0, 33))), map[bool]api.Errno{true: api.ErrHdExtra, false: api.ErrRlpWide}[width == 0])
		}
	}
}

// P19.3: of several wrong fields the first is told, whatever is wrong with the later ones; and the number of fields ahead of all of them.
func TestFirstWrongField(t *testing.T) {
	// wrong tells an item that is wrong at a field, and its error.
	wrong := func(i, way int) (api.Item, api.Errno) {
		switch way {
		case 0:
			return list(), api.ErrRlpKind
		case 1:
			return api.Item{Data: []byte{1}, Items: []api.Item{text()}}, api.ErrRlpItem
		case 2:
			if widths[i] < 0 {
				return text(0), api.ErrRlpZero
			}
		}
		if widths[i] == 0 {
			return filled(1, 33), api.ErrHdExtra
		}
		return filled(1, 300), api.ErrRlpWide
	}
	for tail, count := range fieldCounts {
		tree := modelTree(plain(tail))
		for i := range count {
			for j := range i {
				for first := range 4 {
					for second := range 4 {
						a, want := wrong(j, first)
						b, _ := wrong(i, second)
						if e := checkParse(t, replaced(replaced(tree, j, a), i, b)); e != want {
							t.Errorf("tail %d, fields %d and %d wrong: %d, want %d", tail, j, i, e, want)
						}
					}
				}
			}
			for way := range 4 {
				it, want := wrong(i, way)
				if e := checkParse(t, replaced(tree, i, it)); e != want {
					t.Errorf("tail %d, field %d wrong: %d, want %d", tail, i, e, want)
				}
				long := replaced(tree, i, it)
				long.Items = append(long.Items, text(), text(), text(), text(), text(), text(), text())
				if e := checkParse(t, long); e != api.ErrHdFields {
					t.Errorf("tail %d, field %d wrong and too many: %d", tail, i, e)
				}
			}
		}
	}
}

// P19.3: items that are odd, the list itself or one of its items; what is odd deeper is not looked at.
func TestOdd(t *testing.T) {
	for tail := range tails {
		eachOdd(modelTree(plain(tail)), func(it api.Item) {
			if e := checkParse(t, it); e != api.ErrRlpItem {
				t.Errorf("tail %d, an odd item: %d", tail, e)
			}
		})
		deep := list(api.Item{Data: []byte{1}, Items: []api.Item{text()}})
		if e := checkParse(t, replaced(modelTree(plain(tail)), 3, deep)); e != api.ErrRlpKind {
			t.Errorf("an odd item within a list: %d", e)
		}
	}
	for _, it := range []api.Item{{List: true, Data: []byte{1}}, {Items: []api.Item{text()}}, {Items: modelItems(plain(0))[:15]}, {List: true, Data: []byte{0}, Items: modelItems(plain(0))[:15]}} {
		if e := checkParse(t, it); e != api.ErrRlpItem {
			t.Errorf("an odd list: %d", e)
		}
	}
}

// P19.3, P0.9: the same header in other forms, which rlp refuses: that is told ahead of all that is wrong with the fields.
func TestOtherForms(t *testing.T) {
	front := slices.Concat(digits("a0"), make([]byte, 32), digits("a0"), make([]byte, 32), digits("94"), make([]byte, 20), digits("a0"), make([]byte, 32), digits("a0"), make([]byte, 32), digits("a0"), make([]byte, 32))
	bloom := make([]byte, 256)
	back := slices.Concat(digits("a0"), make([]byte, 32), digits("88"), make([]byte, 8))
	for _, c := range []struct {
		head, middle, numbers, more string
		want                        api.Errno
	}{
		{"f901ed", "b90100", "80 80 80 80 80 80", "", api.OK},
		{"f901ed", "b90100", "07 80 80 80 80 80", "", api.OK},
		{"f901ed", "b90100", "00 80 80 80 80 80", "", api.ErrRlpZero},
		{"f901ed", "b90100", "80 80 80 00 80 80", "", api.ErrRlpZero},
		{"f901ed", "b90100", "80 80 80 80 80 00", "", api.OK},
		{"f901ee", "b90100", "8107 80 80 80 80 80", "", api.ErrRlpByte},
		{"f901ee", "b90100", "8180 80 80 80 80 80", "", api.OK},
		{"f901ee", "b90100", "80 80 80 80 80 8107", "", api.ErrRlpByte},
		{"f901ee", "b90100", "00 80 80 80 80 8107", "", api.ErrRlpByte},
		{"f901ee", "ba000100", "80 80 80 80 80 80", "", api.ErrRlpSize},
		{"fa0001ed", "b90100", "80 80 80 80 80 80", "", api.ErrRlpSize},
		{"f901ec", "b90100", "80 80 80 80 80 80", "", api.ErrRlpEnd},
		{"f901ee", "b90100", "80 80 80 80 80 80", "", api.ErrRlpEnd},
		{"f901ed", "b90100", "80 80 80 80 80 80", "00", api.ErrRlpRest},
		{"f901ed", "b90100", "00 80 80 80 80 80", "00", api.ErrRlpRest},
		{"f901ed", "b90100", "80 80 80 80 80 80", "c0", api.ErrRlpRest},
		{"f901ee", "b90100", "80 80 80 80 80 80", "00", api.ErrRlpZero},
		{"f901ee", "b90100", "80 80 80 80 80 80", "80", api.OK},
		{"f901ee", "b90100", "80 80 80 80 80 80", "c0", api.ErrRlpKind},
	} {
		wantDecode(t, slices.Concat(digits(c.head), front, digits(c.middle), bloom, digits(c.numbers), back, digits(c.more)), c.want)
	}
}

// P19.3: each item of a tree changed in each way, and trees that are spoilt by chance.
func TestSpoiltTrees(t *testing.T) {
	row := chance.Row(1911)
	counts := map[api.Errno]int{}
	for tail := range tails {
		for range 3 {
			eachChange(modelTree(anyHeader(&row, tail)), func(it api.Item) {
				counts[checkParse(t, it)]++
				checkDecode(t, modelBytes(it))
			})
		}
	}
	for range 20000 {
		it := modelTree(anyHeader(&row, row.Below(tails)))
		for range 1 + row.Below(3) {
			it = spoilt(&row, it)
		}
		counts[checkParse(t, it)]++
	}
	for _, e := range []api.Errno{api.OK, api.ErrRlpKind, api.ErrRlpWide, api.ErrRlpZero, api.ErrHdFields, api.ErrHdExtra} {
		if counts[e] < 50 {
			t.Errorf("the answer %d hardly ever comes: %v", e, counts)
		}
	}
}

// P19.3, P19.4: each text that a header's begins with, bytes behind it, and bytes that are changed.
func TestSpoiltBytes(t *testing.T) {
	row := chance.Row(1912)
	counts := map[api.Errno]int{}
	for tail := range tails {
		b := modelBytes(modelTree(anyHeader(&row, tail)))
		for n := range b {
			if e := checkDecode(t, b[:n]); e != api.ErrRlpEnd {
				t.Errorf("the first %d bytes of %x: %d", n, b, e)
			}
		}
		for _, more := range [][]byte{{0}, {0x80}, {0xc0}, b} {
			wantDecode(t, slices.Concat(b, more), api.ErrRlpRest)
		}
		for i := range b {
			for range 3 {
				twin := slices.Clone(b)
				twin[i] ^= 1 << row.Below(8)
				counts[checkDecode(t, twin)]++
				twin[i] = byte(row.Next())
				counts[checkDecode(t, twin)]++
			}
		}
	}
	for range 5000 {
		counts[checkDecode(t, row.Text(row.Below(40)))]++
	}
	for _, e := range []api.Errno{api.OK, api.ErrRlpEnd, api.ErrRlpRest, api.ErrRlpSize, api.ErrRlpKind, api.ErrRlpWide, api.ErrHdFields} {
		if counts[e] < 10 {
			t.Errorf("the answer %d hardly ever comes: %v", e, counts)
		}
	}
}

// P19.3, P0.1: lists within lists, as deep as rlp reads them and deeper.
func TestDeep(t *testing.T) {
	deep := func(n int) api.Item {
		it := list()
		for range n - 1 {
			it = list(it)
		}
		return it
	}
	for i := range 15 {
		tree := modelTree(plain(0))
		wantDecode(t, modelBytes(replaced(tree, i, deep(1023))), api.ErrRlpKind)
		wantDecode(t, modelBytes(replaced(tree, i, deep(1024))), api.ErrRlpDeep)
		if e := checkParse(t, replaced(tree, i, deep(60000))); e != api.ErrRlpKind {
			t.Errorf("a tree that is too deep for bytes, field %d: %d", i, e)
		}
	}
	wantDecode(t, modelBytes(deep(1024)), api.ErrHdFields)
	wantDecode(t, modelBytes(deep(1025)), api.ErrRlpDeep)
	if e := checkParse(t, deep(60000)); e != api.ErrHdFields {
		t.Errorf("60000 lists, one within the other: %d", e)
	}
}

// P19.3, P0.7: more than MaxInput bytes are refused ahead of all that they say; just MaxInput bytes are read.
func TestLong(t *testing.T) {
	tree := modelTree(plain(4))
	for _, size := range []int{maxInput, maxInput + 1} {
		for i, at := range map[int]api.Errno{0: api.ErrRlpWide, 6: api.ErrRlpWide, 7: api.ErrRlpWide, 11: api.ErrRlpWide, 12: api.ErrHdExtra, 20: api.ErrRlpWide} {
			n := 1 << 20
			for range 3 {
				n += size - len(modelBytes(replaced(tree, i, filled(1, n))))
			}
			b := modelBytes(replaced(tree, i, filled(1, n)))
			if len(b) != size {
				t.Fatalf("a text of %d bytes, not %d", len(b), size)
			}
			want := at
			if size > maxInput {
				want = api.ErrLong
			}
			wantDecode(t, b, want)
		}
	}
	for _, first := range []byte{0, 0x80, 0xc0, 0xf9, 0xff} {
		b := make([]byte, maxInput+1)
		b[0] = first
		wantDecode(t, b, api.ErrLong)
		if e := checkDecode(t, b[1:]); e == api.ErrLong {
			t.Error("MaxInput bytes are not too long")
		}
	}
}

// P19.3, P0.1, P0.7: Parse is handed no bytes, and refuses no size: a tree that is too long for bytes is looked at field by field.
func TestGreatTrees(t *testing.T) {
	tree := modelTree(plain(4))
	if e := checkParse(t, replaced(tree, 12, filled(1, maxInput+1))); e != api.ErrHdExtra {
		t.Errorf("a very long Extra: %d", e)
	}
	if e := checkParse(t, replaced(tree, 20, filled(1, maxInput+1))); e != api.ErrRlpWide {
		t.Errorf("a very long digest: %d", e)
	}
	many := list(slices.Repeat([]api.Item{text()}, 1<<20)...)
	if e := checkParse(t, many); e != api.ErrHdFields {
		t.Errorf("very many fields: %d", e)
	}
	if e := checkParse(t, replaced(tree, 2, many)); e != api.ErrRlpKind {
		t.Errorf("a very long list in a field's place: %d", e)
	}
}
