package access_test

import (
	"bytes"
	"slices"
	"testing"

	"waybill/access"
	"waybill/api"
	"waybill/chance"
	"waybill/rlp"
)

// checkAuthItem holds AuthItem against its model (P14.5, P0.2), ParseAuth of its answer against the authorizations (P14.10), and tells the error.
func checkAuthItem(t *testing.T, auths []api.Auth) api.Errno {
	t.Helper()
	want, wantE := modelAuthItem(auths)
	it, e := access.AuthItem(auths)
	if !same(it, want) || e != wantE {
		t.Errorf("AuthItem of %d authorizations: %d, want %d, or not the item that is wanted", len(auths), e, wantE)
	}
	if e != api.OK {
		return e
	}
	if again, e := access.ParseAuth(it); !slices.Equal(again, auths) || e != api.OK {
		t.Errorf("ParseAuth of AuthItem of %d authorizations: %d of them, %d", len(auths), len(again), e)
	}
	return e
}

// checkParseAuth holds ParseAuth against its model (P14.6, P0.2), AuthItem of its answer against the item (P14.10), and tells the error.
func checkParseAuth(t *testing.T, it api.Item) api.Errno {
	t.Helper()
	want, wantE := modelParseAuth(it)
	got, e := access.ParseAuth(it)
	if !slices.Equal(got, want) || e != wantE {
		t.Errorf("ParseAuth(%v) = %v, %d, want %v, %d", it, got, e, want, wantE)
	}
	if e != api.OK {
		return e
	}
	if again, e := access.AuthItem(got); !same(again, it) || e != api.OK {
		t.Errorf("AuthItem of ParseAuth(%v) = %v, %d", it, again, e)
	}
	return e
}

// field tells the item of one authorization of zeros, with another item in the place of a field's.
func field(i int, other api.Item) api.Item {
	fields := list(text(), text(make([]byte, 20)...), text(), text(), text(), text())
	return list(replaced(fields, i, other))
}

// P14.5, P14.6: authorizations whose bytes are plain to see, and the end of the chapter's fifth example.
func TestExamplesOfAuths(t *testing.T) {
	for _, c := range []struct {
		auths []api.Auth
		bytes string
	}{
		{nil, "c0"},
		{[]api.Auth{{}}, "db da 80 94 0000000000000000000000000000000000000000 80 80 80 80"},
		{[]api.Auth{{Chain: api.U256{1}, Address: api.Address{19: 2}, Nonce: 3, Parity: 1, R: api.U256{0x7f}, S: api.U256{0x80}}}, "dc db 01 94 0000000000000000000000000000000000000002 03 01 7f 8180"},
		{[]api.Auth{{Chain: api.U256{0, 1}, Nonce: 256, Parity: 255}, {S: api.U256{5}}}, "f842 e6 89 010000000000000000 94 0000000000000000000000000000000000000000 82 0100 81ff 80 80 da 80 94 0000000000000000000000000000000000000000 80 80 80 05"},
	} {
		it, e := access.AuthItem(c.auths)
		if b, f := rlp.Encode(it); !bytes.Equal(b, digits(c.bytes)) || e != api.OK || f != api.OK {
			t.Errorf("AuthItem(%v): %x, %d, %d", c.auths, b, e, f)
		}
		checkAuthItem(t, c.auths)
		tree, _ := rlp.Decode(digits(c.bytes))
		if got, e := access.ParseAuth(tree); !slices.Equal(got, c.auths) || e != api.OK {
			t.Errorf("ParseAuth of %s: %v, %d", c.bytes, got, e)
		}
	}
	for i, wrong := range []api.Item{
		field(3, text(1, 0)), field(2, text(0)), // the chapter's
		text(), text(1), list(text()), list(list()), list(list(text())), list(field(0, text())),
		field(1, text()), field(1, text(make([]byte, 19)...)), field(1, text(make([]byte, 21)...)), field(1, list()),
	} {
		if got, e := access.ParseAuth(wrong); got != nil || e != api.ErrAuth {
			t.Errorf("ParseAuth of the wrong item %d = %v, %d", i, got, e)
		}
		checkParseAuth(t, wrong)
	}
}

// P14.6: scalars of all lengths in the place of each field, without and with zeros ahead; lists and odd items.
func TestParseAuthFields(t *testing.T) {
	widths := []int{32, 20, 8, 1, 32, 32}
	for i, width := range widths {
		for n := range 40 {
			for _, first := range []byte{0, 1, 0x7f, 0x80, 0xff} {
				data := bytes.Repeat([]byte{first}, n)
				isRight := n <= width && (n == 0 || first != 0)
				if i == 1 {
					isRight = n == width
				}
				if e := checkParseAuth(t, field(i, text(data...))); (e == api.OK) != isRight {
					t.Errorf("field %d of %d bytes %x: %d", i, n, first, e)
				}
				if n > 0 {
					data[n-1] = 5
					checkParseAuth(t, field(i, text(data...)))
					data[0] = 0
					checkParseAuth(t, field(i, text(data...)))
				}
			}
		}
		right := text(bytes.Repeat([]byte{1}, width)...)
		for _, wrong := range []api.Item{list(), list(right), {List: true, Data: right.Data}, {Data: right.Data, Items: []api.Item{{}}}, {Items: []api.Item{right}}} {
			if got, e := access.ParseAuth(field(i, wrong)); got != nil || e != api.ErrAuth {
				t.Errorf("field %d is %v: %v, %d", i, wrong, got, e)
			}
		}
	}
}

// P14.6: a list of just six; lists with bytes and texts with items are none.
func TestParseAuthLists(t *testing.T) {
	whole := field(0, text())
	fields := whole.Items[0].Items
	if e := checkParseAuth(t, whole); e != api.OK {
		t.Errorf("an authorization of zeros: %d", e)
	}
	for n := range 14 {
		items := slices.Concat(fields, fields, fields)[:n]
		if e := checkParseAuth(t, list(list(items...))); (e == api.OK) != (n == 6) {
			t.Errorf("an authorization of %d items: %d", n, e)
		}
	}
	for _, odd := range []api.Item{
		{List: true, Data: []byte{1}}, {List: true, Data: []byte{0}, Items: whole.Items}, {Items: whole.Items}, {Items: []api.Item{{}}}, list(api.Item{Items: fields}), list(api.Item{List: true, Data: []byte{0}, Items: fields}), list(whole.Items[0], text()), list(text(), whole.Items[0]),
	} {
		if got, e := access.ParseAuth(odd); got != nil || e != api.ErrAuth {
			t.Errorf("ParseAuth(%v) = %v, %d", odd, got, e)
		}
		checkParseAuth(t, odd)
	}
	deep := list()
	for range 60000 {
		deep = list(deep)
	}
	for _, it := range []api.Item{deep, field(0, deep), field(1, deep), list(whole.Items[0], deep)} {
		if got, e := access.ParseAuth(it); got != nil || e != api.ErrAuth {
			t.Errorf("ParseAuth of a deep tree = %v, %d", got, e)
		}
	}
}

// P14.5, P14.6, P14.10: authorizations by chance, there and back; each field counts, in its own place.
func TestAuthItemAndParseAuth(t *testing.T) {
	row := chance.Row(1410)
	for range 1000 {
		auths := anyAuths(&row, 5)
		if e := checkAuthItem(t, auths); e != api.OK {
			t.Errorf("AuthItem of a short list: %d", e)
		}
		if e := checkParseAuth(t, authTree(auths)); e != api.OK {
			t.Errorf("ParseAuth of a short list's item: %d", e)
		}
	}
	for _, a := range []api.Auth{{Chain: top}, {Address: api.Address(bytes.Repeat([]byte{0xff}, 20))}, {Nonce: most}, {Nonce: most - 1}, {Parity: 255}, {Parity: 128}, {Parity: 127}, {Parity: 2}, {R: top}, {S: top}, {Chain: top, Nonce: most, Parity: 255, R: top, S: top}} {
		if e := checkAuthItem(t, []api.Auth{a, {}}); e != api.OK {
			t.Errorf("AuthItem of %v: %d", a, e)
		}
	}
	for i := range 256 {
		limb, bit := i/64, uint64(1)<<(i%64)
		x := api.U256{}
		x[limb] = bit
		checkAuthItem(t, []api.Auth{{Chain: x}, {R: x}, {S: x}, {Nonce: bit}, {Nonce: bit - 1}})
	}
}

// P14.6: each item of a tree changed in each way, and trees that are spoilt by chance.
func TestParseAuthSpoilt(t *testing.T) {
	row := chance.Row(1411)
	counts := map[api.Errno]int{}
	for range 60 {
		eachChange(authTree(anyAuths(&row, 3)), func(it api.Item) { counts[checkParseAuth(t, it)]++ })
	}
	for range 5000 {
		it := authTree(anyAuths(&row, 3))
		for range 1 + row.Below(3) {
			it = spoilt(&row, it)
		}
		counts[checkParseAuth(t, it)]++
	}
	if counts[api.OK] < 1000 || counts[api.ErrAuth] < 1000 {
		t.Errorf("an answer hardly ever comes: %v", counts)
	}
}

// P14.5: a Parity above 255 is refused, wherever it stands.
func TestAuthItemParity(t *testing.T) {
	row := chance.Row(1412)
	for _, parity := range []uint64{256, 257, 511, 512, 1 << 16, 1 << 32, 1<<32 + 1, 1 << 63, most} {
		for n := 1; n < 5; n++ {
			for at := range n {
				auths := make([]api.Auth, n)
				for i := range auths {
					auths[i] = anyAuth(&row)
				}
				auths[at].Parity = parity
				if e := checkAuthItem(t, auths); e != api.ErrAuth {
					t.Errorf("Parity %d: %d", parity, e)
				}
			}
		}
	}
	for parity := range uint64(256) {
		if e := checkAuthItem(t, []api.Auth{{Parity: parity}}); e != api.OK {
			t.Errorf("Parity %d: %d", parity, e)
		}
	}
}

// manyAuths tells authorizations, each so many times, and their tree, which has its items but once in the memory.
func manyAuths(counts []int, auths ...api.Auth) (all []api.Auth, tree api.Item) {
	tree = list()
	for i, a := range auths {
		all = append(all, slices.Repeat([]api.Auth{a}, counts[i])...)
		tree.Items = append(tree.Items, slices.Repeat(authTree([]api.Auth{a}).Items, counts[i])...)
	}
	return all, tree
}

// P14.5, P0.7: just MaxInput bytes are taken, one more is not; a Parity above 255 comes first.
func TestAuthItemLong(t *testing.T) {
	const head = 4 // of the whole list
	full := api.Auth{Chain: top, Nonce: most, Parity: 255, R: top, S: top}
	for _, ahead := range []int{0, 126000} {
		for size, want := range map[int]api.Errno{api.MaxInput: api.OK, api.MaxInput + 1: api.ErrLong} {
			least, more := parted(size-head-133*ahead, 27, 28)
			auths, tree := manyAuths([]int{ahead, least, more}, full, noAuth, api.Auth{Nonce: 128})
			if got := modelSize(tree); got != size {
				t.Fatalf("a list of %d bytes, not %d", got, size)
			}
			if it, e := access.AuthItem(auths); e != want || e == api.OK && !same(it, tree) || e != api.OK && !same(it, nothing) {
				t.Errorf("AuthItem of %d bytes, %d full ones ahead: %d, want %d", size, ahead, e, want)
			}
		}
	}
	for _, n := range []int{621379, 1 << 20, 1 << 22} {
		auths := make([]api.Auth, n)
		if it, e := access.AuthItem(auths); !same(it, nothing) || e != api.ErrLong {
			t.Errorf("AuthItem of %d authorizations: %d", n, e)
		}
		auths[n-1].Parity = 256
		if it, e := access.AuthItem(auths); !same(it, nothing) || e != api.ErrAuth {
			t.Errorf("AuthItem of %d authorizations, the last with a wrong Parity: %d", n, e)
		}
	}
}

// P14.6: how many bytes the item would take is not looked at.
func TestParseAuthLong(t *testing.T) {
	auths := slices.Repeat([]api.Auth{{Chain: top, Nonce: most, Parity: 255, R: top, S: top}}, 127000)
	tree := authTree(auths)
	if size := modelSize(tree); size <= api.MaxInput {
		t.Fatalf("only %d bytes", size)
	}
	if got, e := access.ParseAuth(tree); !slices.Equal(got, auths) || e != api.OK {
		t.Errorf("ParseAuth of a long item: %d, %d", len(got), e)
	}
	tree.Items[126999].Items[5].Data[0] = 0
	if got, e := access.ParseAuth(tree); got != nil || e != api.ErrAuth {
		t.Errorf("ParseAuth of a long item with a fault at its end: %d, %d", len(got), e)
	}
}
