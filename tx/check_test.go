package tx_test

import (
	"bytes"
	"math/big"
	"slices"
	"testing"

	"waybill/api"
	"waybill/chance"
	"waybill/tx"
)

// checkAll holds Draft, Check, Fields, Encode and Hash of a transaction against their models (P15.1, P15.3 to P15.5, P0.2), Decode of its bytes against it (P15.8), and tells the errors of Draft and Check.
func checkAll(t *testing.T, x api.Tx) (draft, check api.Errno) {
	t.Helper()
	draft, check = tx.Draft(x), tx.Check(x)
	if want := modelDraft(x); draft != want {
		t.Errorf("Draft(%+v) = %d, want %d", x, draft, want)
	}
	if want := modelCheck(x); check != want {
		t.Errorf("Check(%+v) = %d, want %d", x, check, want)
	}
	items, e := tx.Fields(x)
	if want, wantE := modelFields(x); !sameItems(items, want) || e != wantE {
		t.Errorf("Fields(%+v) = %v, %d, want %v, %d", x, items, e, want, wantE)
	}
	b, e := tx.Encode(x)
	if want, wantE := modelEncode(x); !bytes.Equal(b, want) || e != wantE {
		t.Errorf("Encode(%+v) = %x, %d, want %x, %d", x, b, e, want, wantE)
	}
	h, f := tx.Hash(x)
	if want, wantE := modelHash(x); h != want || f != wantE {
		t.Errorf("Hash(%+v) = %x, %d, want %x, %d", x, h, f, want, wantE)
	}
	if e != api.OK {
		return draft, check
	}
	if y, e := tx.Decode(b); e != api.OK || !tx.Same(x, y) || !modelSame(x, y) {
		t.Errorf("Decode(Encode(%+v)) = %+v, %d", x, y, e)
	}
	return draft, check
}

// wantBoth wants just these errors of Draft and Check.
func wantBoth(t *testing.T, what string, x api.Tx, draft, check api.Errno) {
	t.Helper()
	if d, c := checkAll(t, x); d != draft || c != check {
		t.Errorf("%s, type %d: Draft %d, Check %d, want %d, %d", what, x.Type, d, c, draft, check)
	}
}

// P15.1, P15.3: the chapter's first three examples, as far as Draft and Check go.
func TestExamplesOfCheck(t *testing.T) {
	old := func(v, chain uint64) api.Tx {
		return api.Tx{Chain: chain, Gas: 21000, V: api.U256{v}, R: api.U256{1}, S: api.U256{2}}
	}
	for _, c := range []struct {
		v, chain uint64
		want     api.Errno
	}{{27, 0, api.OK}, {37, 1, api.OK}, {35, 0, api.ErrTxSig}, {36, 0, api.ErrTxSig}, {0, 0, api.ErrTxSig}, {37, 0, api.ErrTxSig}} {
		wantBoth(t, "example 1", old(c.v, c.chain), api.OK, c.want)
	}
	for _, kind := range []int{1, 2} {
		x := api.Tx{Type: kind, Chain: 1, Create: true}
		wantBoth(t, "example 2", x, api.OK, api.OK)
		x.V = api.U256{2}
		wantBoth(t, "example 2 with V 2", x, api.OK, api.ErrTxSig)
	}
	for _, c := range []struct {
		x    api.Tx
		want api.Errno
	}{
		{api.Tx{Type: 3, Create: true}, api.ErrTxTo}, {api.Tx{Type: 3, To: api.Address{1}}, api.ErrTxEmpty}, {api.Tx{Type: 3, To: api.Address{1}, BlobHashes: []api.Hash{{2}}}, api.ErrTxField},
		{api.Tx{Type: 2, Price: api.U256{1}}, api.ErrTxField}, {api.Tx{Type: 0, Access: make([]api.AccessEntry, 1)}, api.ErrTxField}, {api.Tx{Type: 0, Create: true, To: api.Address{1}}, api.ErrTxField},
		{api.Tx{Type: 5}, api.ErrTxType}, {api.Tx{Type: 2, Chain: 1 << 63}, api.ErrTxChain},
	} {
		wantBoth(t, "example 3", c.x, c.want, c.want)
	}
}

// P15.1: types that are none, whatever else there is.
func TestTypes(t *testing.T) {
	row := chance.Row(1510)
	for _, kind := range []int{-1 << 63, -256, -5, -4, -3, -2, -1, 5, 6, 7, 127, 128, 255, 256, 257, 260, 1 << 16, 1 << 32, 1<<32 + 1, 1<<63 - 1} {
		for from := range kinds {
			x := anyTx(&row, from)
			x.Type = kind
			wantBoth(t, "no type", x, api.ErrTxType, api.ErrTxType)
			x.Create, x.To, x.Chain = true, api.Address{1}, most
			wantBoth(t, "no type", x, api.ErrTxType, api.ErrTxType)
		}
	}
}

// strays tells what may be put into a field that not all types have.
func strays(word string) []func(*api.Tx) {
	var all []func(*api.Tx)
	switch word {
	case "Access":
		for n := 1; n < 3; n++ {
			all = append(all, func(x *api.Tx) { x.Access = make([]api.AccessEntry, n) })
		}
	case "BlobHashes":
		for _, h := range []api.Hash{{1}, {}, {2}} {
			all = append(all, func(x *api.Tx) { x.BlobHashes = []api.Hash{h} })
		}
	case "Auths":
		for _, a := range []api.Auth{{}, {Parity: 256}} {
			all = append(all, func(x *api.Tx) { x.Auths = []api.Auth{a} })
		}
	default:
		for i := range 256 {
			all = append(all, func(x *api.Tx) { numbers(x)[word][i/64] = 1 << (i % 64) })
		}
	}
	return all
}

// P15.1: a field that does not stand in the type's row, and the same field where it does.
func TestStrays(t *testing.T) {
	absent := 0
	for kind := range kinds {
		for _, word := range []string{"Price", "Tip", "Cap", "BlobCap", "Access", "BlobHashes", "Auths"} {
			for _, put := range strays(word) {
				x := plain(kind)
				put(&x)
				draft, _ := checkAll(t, x)
				if !slices.Contains(wordsOf(kind), word) {
					absent++
					if draft != api.ErrTxField {
						t.Errorf("type %d with %s: %d", kind, word, draft)
					}
				} else if draft != api.OK && word != "BlobHashes" && word != "Auths" {
					t.Errorf("type %d, which has %s: %d", kind, word, draft)
				}
			}
		}
	}
	if absent < 2000 {
		t.Errorf("only %d strays", absent)
	}
}

// P15.1: fields that stand in all rows may be anything; so may V, R and S, and the Chain of type 0.
func TestNoStrays(t *testing.T) {
	for kind := range kinds {
		for _, word := range []string{"Value", "V", "R", "S"} {
			for i := range 256 {
				x := plain(kind)
				numbers(&x)[word][i/64] |= 1 << (i % 64)
				if draft, _ := checkAll(t, x); draft != api.OK {
					t.Errorf("type %d with a bit of %s: %d", kind, word, draft)
				}
			}
		}
		for _, word := range []string{"Chain", "Nonce", "Gas"} {
			for i := range 63 {
				x := plain(kind)
				*smalls(&x)[word] = 1 << i
				if draft, _ := checkAll(t, x); draft != api.OK {
					t.Errorf("type %d with a bit of %s: %d", kind, word, draft)
				}
			}
		}
		x := plain(kind)
		x.Nonce, x.Gas, x.To, x.Value, x.Data, x.R, x.S = most, most, api.Address{1}, top, []byte{0}, top, top
		wantBoth(t, "the greatest numbers", x, api.OK, api.OK)
	}
}

// P15.1: Create and To together, and neither; the types 3 and 4 want a receiver.
func TestReceivers(t *testing.T) {
	for kind := range kinds {
		x := plain(kind)
		wantBoth(t, "To is zero", x, api.OK, api.OK)
		for i := range 20 {
			x.Create, x.To = false, nobody
			x.To[i] = 1
			wantBoth(t, "To", x, api.OK, api.OK)
			x.Create = true
			wantBoth(t, "To and Create", x, api.ErrTxField, api.ErrTxField)
		}
		x.To = nobody
		want := api.OK
		if kind >= 3 {
			want = api.ErrTxTo
		}
		wantBoth(t, "Create", x, want, want)
	}
}

// P15.1: how many BlobHashes there may be, and with which byte they begin.
func TestBlobHashes(t *testing.T) {
	many := slices.Repeat([]api.Hash{{1, 2}}, api.MaxBlobs+2)
	for _, n := range []int{0, 1, 2, 6, 4095, 4096, 4097, 4098} {
		want := api.OK
		if n == 0 {
			want = api.ErrTxEmpty
		} else if n > 4096 {
			want = api.ErrTxField
		}
		wantBoth(t, "so many hashes", api.Tx{Type: 3, BlobHashes: many[:n]}, want, want)
	}
	for first := range 256 {
		want := api.OK
		if first != 1 {
			want = api.ErrTxField
		}
		h := api.Hash(bytes.Repeat([]byte{1}, 32))
		h[0] = byte(first)
		for _, hashes := range [][]api.Hash{{h}, {h, {1}}, {{1}, h}, {{1}, h, {1}}} {
			wantBoth(t, "a hash's first byte", api.Tx{Type: 3, BlobHashes: hashes}, want, want)
		}
	}
	full := slices.Clone(many[:api.MaxBlobs])
	full[api.MaxBlobs-1][0] = 0
	wantBoth(t, "the last hash of many", api.Tx{Type: 3, BlobHashes: full}, api.ErrTxField, api.ErrTxField)
}

// P15.1, P15.3: the greatest Chain, and those above it, in all types, whatever V is.
func TestChainNumbers(t *testing.T) {
	for kind := range kinds {
		for chain, want := range map[uint64]api.Errno{0: api.OK, 1: api.OK, api.MaxChain - 1: api.OK, api.MaxChain: api.OK, 1 << 63: api.ErrTxChain, 1<<63 + 1: api.ErrTxChain, most: api.ErrTxChain} {
			x := plain(kind)
			x.Chain = chain
			if kind == 0 {
				x.V = legacyV(chain, 1)
			}
			wantBoth(t, "Chain", x, want, want)
			x.V = top
			if want == api.OK {
				wantBoth(t, "Chain and a wrong V", x, api.OK, api.ErrTxSig)
			} else {
				wantBoth(t, "Chain and a wrong V", x, want, want)
			}
		}
	}
	for _, v := range []api.U256{{}, {27}, {28}, {35}, {37}, legacyV(1<<63, 0), legacyV(most, 0)} {
		wantBoth(t, "Chain", api.Tx{Chain: 1 << 63, V: v}, api.ErrTxChain, api.ErrTxChain)
	}
}

// P15.1: the Parity of each authorization.
func TestParities(t *testing.T) {
	for _, parity := range []uint64{0, 1, 2, 127, 128, 254, 255, 256, 257, 511, 512, 1 << 16, 1 << 32, 1<<32 + 1, 1 << 63, most} {
		want := api.OK
		if parity > 255 {
			want = api.ErrAuth
		}
		for n := 1; n < 5; n++ {
			for at := range n {
				x := api.Tx{Type: 4, Auths: make([]api.Auth, n)}
				x.Auths[at].Parity = parity
				wantBoth(t, "Parity", x, want, want)
			}
		}
	}
	wantBoth(t, "no Auths", api.Tx{Type: 4}, api.ErrTxEmpty, api.ErrTxEmpty)
	wantBoth(t, "no Auths", api.Tx{Type: 4, Auths: make([]api.Auth, 0, 3)}, api.ErrTxEmpty, api.ErrTxEmpty)
	wantBoth(t, "no hashes", api.Tx{Type: 3, BlobHashes: make([]api.Hash, 0, 3)}, api.ErrTxEmpty, api.ErrTxEmpty)
}

type fault struct {
	e   api.Errno
	put func(*api.Tx)
}

// faults tells what may be wrong in a type, in the order in which it is looked for; each may be put beside the others.
func faults(kind int) []fault {
	all := []fault{
		{api.ErrTxType, func(x *api.Tx) { x.Type += 5 }},
		{api.ErrTxField, func(x *api.Tx) {
			if kind < 2 {
				x.Tip[3] = 1
			} else {
				x.Price[3] = 1
			}
		}},
		{api.ErrTxChain, func(x *api.Tx) { x.Chain = 1 << 63 }},
	}
	if kind >= 3 {
		all = append(all, fault{api.ErrTxTo, func(x *api.Tx) { x.Create, x.To = true, nobody }})
	}
	if kind == 3 {
		all = append(all, fault{api.ErrTxEmpty, func(x *api.Tx) { x.BlobHashes = nil }})
	}
	if kind == 4 {
		all = append(all, fault{api.ErrAuth, func(x *api.Tx) { x.Auths = append(x.Auths, api.Auth{Parity: 256}) }})
	}
	return append(all, fault{api.ErrTxSig, func(x *api.Tx) { x.V = api.U256{2} }}, fault{api.ErrLong, func(x *api.Tx) { x.Data = make([]byte, maxInput) }})
}

// P15.1, P15.3, P0.1: of several faults the one that is named first is told.
func TestFirstFault(t *testing.T) {
	row := chance.Row(1511)
	for kind := range kinds {
		all := faults(kind)
		for set := range 1 << len(all) {
			x := anyTx(&row, kind)
			want := api.OK
			for i, one := range slices.Backward(all) {
				if set>>i&1 == 1 {
					one.put(&x)
					want = one.e
				}
			}
			draft := want
			if want == api.ErrTxSig || want == api.ErrLong {
				draft = api.OK
			}
			if d, c := tx.Draft(x), tx.Check(x); d != draft || c != want {
				t.Errorf("type %d, the faults %b: Draft %d, Check %d, want %d, %d", kind, set, d, c, draft, want)
			}
			if b, e := tx.Encode(x); e != want || (len(b) > 0) != (want == api.OK) {
				t.Errorf("type %d, the faults %b: Encode %d bytes, %d", kind, set, len(b), e)
			}
			if h, e := tx.Hash(x); e != want || (h != api.Hash{}) != (want == api.OK) {
				t.Errorf("type %d, the faults %b: Hash %x, %d", kind, set, h, e)
			}
		}
	}
	noAuths := api.Tx{Type: 4, Create: true, Chain: most, To: api.Address{1}}
	for _, step := range []struct {
		want api.Errno
		mend func()
	}{
		{api.ErrTxField, func() { noAuths.To = nobody }}, {api.ErrTxChain, func() { noAuths.Chain = 0 }}, {api.ErrTxTo, func() { noAuths.Create = false }}, {api.ErrTxEmpty, func() { noAuths.Auths = []api.Auth{{Parity: 256}} }}, {api.ErrAuth, func() { noAuths.Auths[0].Parity = 255 }}, {api.OK, func() {}},
	} {
		wantBoth(t, "mended step by step", noAuths, step.want, step.want)
		step.mend()
	}
}

// P15.1, P15.3: fields of one type in another one, and fields that are changed by chance.
func TestChecksByChance(t *testing.T) {
	row := chance.Row(1512)
	counts := map[api.Errno]int{}
	for range 20000 {
		kind := row.Below(kinds)
		x := anyTx(&row, kind)
		for range row.Below(3) {
			switch row.Below(9) {
			case 0:
				x.Type = row.Below(7) - 1
			case 1:
				words := []string{"Price", "Tip", "Cap", "BlobCap", "V"}
				*numbers(&x)[words[row.Below(5)]] = anyNumber(&row)
			case 2:
				x.Chain = row.Next() >> row.Below(4)
			case 3:
				x.Create = !x.Create
			case 4:
				x.To = anyAddress(&row)
			case 5:
				x.BlobHashes = append(x.BlobHashes, anyKey(&row), anyBlob(&row))[row.Below(3):]
			case 6:
				x.BlobHashes, x.Auths = nil, nil
			case 7:
				x.Auths = append(x.Auths, api.Auth{Parity: anySmall(&row)})
			case 8:
				x.Access, x.V = anyEntries(&row, 1), legacyV(x.Chain, 0)
			}
		}
		_, check := checkAll(t, x)
		counts[check]++
	}
	for _, e := range []api.Errno{api.OK, api.ErrTxType, api.ErrTxField, api.ErrTxChain, api.ErrTxTo, api.ErrTxEmpty, api.ErrAuth, api.ErrTxSig} {
		if counts[e] < 50 {
			t.Errorf("the answer %d hardly ever comes: %v", e, counts)
		}
	}
}

// checkChain holds Chain against its model (P15.2), and what it answers against V.
func checkChain(t *testing.T, v api.U256) api.Errno {
	t.Helper()
	chain, named, odd, e := tx.Chain(v)
	wantC, wantN, wantO, wantE := modelChain(v)
	if chain != wantC || named != wantN || odd != wantO || e != wantE {
		t.Errorf("Chain(%v) = %d, %t, %t, %d, want %d, %t, %t, %d", v, chain, named, odd, e, wantC, wantN, wantO, wantE)
	}
	parity := 0
	if odd {
		parity = 1
	}
	if e == api.OK && legacyV(chain, parity) != v {
		t.Errorf("Chain(%v): another V has the chain %d, %t", v, chain, odd)
	}
	return e
}

// P15.2: the chapter's fifth example.
func TestExamplesOfChain(t *testing.T) {
	for _, c := range []struct {
		v          api.U256
		chain      uint64
		named, odd bool
		e          api.Errno
	}{
		{api.U256{27}, 0, false, false, api.OK}, {api.U256{28}, 0, false, true, api.OK}, {api.U256{37}, 1, true, false, api.OK}, {api.U256{38}, 1, true, true, api.OK}, {api.U256{34, 1}, api.MaxChain, true, true, api.OK},
		{api.U256{35, 1}, 0, false, false, api.ErrTxSig}, {api.U256{}, 0, false, false, api.ErrTxSig}, {api.U256{36}, 0, false, false, api.ErrTxSig},
	} {
		if chain, named, odd, e := tx.Chain(c.v); chain != c.chain || named != c.named || odd != c.odd || e != c.e {
			t.Errorf("Chain(%v) = %d, %t, %t, %d", c.v, chain, named, odd, e)
		}
	}
}

// P15.2: all small numbers, those around each power of two and around the greatest V, and others.
func TestChain(t *testing.T) {
	row := chance.Row(1513)
	good := 0
	for v := range uint64(2000) {
		if checkChain(t, api.U256{v}) == api.OK {
			good++
		}
		for limb := 1; limb < 4; limb++ {
			x := api.U256{v}
			x[limb] = 1
			checkChain(t, x)
		}
	}
	if good != 2000-37+2 {
		t.Errorf("%d of the first 2000 numbers are taken", good)
	}
	for i := range uint(256) {
		for d := int64(-40); d <= 40; d++ {
			if n := new(big.Int).Add(new(big.Int).Lsh(big.NewInt(1), i), big.NewInt(d)); n.Sign() >= 0 {
				checkChain(t, narrow(n))
			}
		}
	}
	for d := range uint64(40) {
		checkChain(t, api.U256{most - d, most, most, most})
		checkChain(t, api.U256{most - d, most})
	}
	for range 2000 {
		checkChain(t, row.Number())
		if e := checkChain(t, legacyV(anySmall(&row)>>1, row.Below(2))); e != api.OK {
			t.Errorf("the V of a chain: %d", e)
		}
		if e := checkChain(t, legacyV(1<<63|row.Next(), row.Below(2))); e != api.ErrTxSig {
			t.Errorf("the V of a chain above MaxChain: %d", e)
		}
	}
}

// P15.3: V of the types 1 to 4 is 0 or 1, that of type 0 names the Chain.
func TestCheckV(t *testing.T) {
	for kind := 1; kind < kinds; kind++ {
		x := plain(kind)
		for _, v := range []api.U256{{}, {1}} {
			x.V = v
			wantBoth(t, "V", x, api.OK, api.OK)
		}
		wrong := []api.U256{{2}, {3}, {27}, {28}, {37}, {256}, {257}, {most}, {0, 1}, {1, 1}, {0, 0, 1}, {1, 0, 1}, {0, 0, 0, 1}, {1, 0, 0, 1}, top}
		for _, v := range wrong {
			x.V = v
			wantBoth(t, "V", x, api.OK, api.ErrTxSig)
		}
	}
	taken := 0
	for v := range uint64(60) {
		for chain := range uint64(15) {
			x := api.Tx{Chain: chain, V: api.U256{v}}
			named, _, _, e := modelChain(x.V)
			want := api.ErrTxSig
			if e == api.OK && named == chain {
				want = api.OK
				taken++
			}
			wantBoth(t, "V and Chain", x, api.OK, want)
		}
	}
	if taken != 2+2*11+1 { // 27, 28, 37 to 59
		t.Errorf("%d pairs of V and Chain are taken", taken)
	}
	for _, chain := range []uint64{1, 5, 1337, 1 << 32, 1 << 62, api.MaxChain} {
		for odd := range 2 {
			wantBoth(t, "V", api.Tx{Chain: chain, V: legacyV(chain, odd)}, api.OK, api.OK)
			wantBoth(t, "V of another chain", api.Tx{Chain: chain - 1, V: legacyV(chain, odd)}, api.OK, api.ErrTxSig)
			wantBoth(t, "V of no chain", api.Tx{Chain: chain, V: legacyV(0, odd)}, api.OK, api.ErrTxSig)
		}
	}
}
