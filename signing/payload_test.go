package signing_test

import (
	"bytes"
	"encoding/hex"
	"math/big"
	"testing"

	"waybill/api"
	"waybill/chance"
	"waybill/keccak"
	"waybill/rlp"
	"waybill/signing"
	"waybill/tx"
)

// checkPayload holds Payload and Digest against their models (P16.1, P0.2) and tells the error.
func checkPayload(t *testing.T, x api.Tx) api.Errno {
	t.Helper()
	want, wantE := modelPayload(x)
	if got, e := signing.Payload(x); !bytes.Equal(got, want) || e != wantE {
		t.Errorf("Payload(%+v) = %x, %d, want %x, %d", x, got, e, want, wantE)
	}
	digest, wantE := modelDigest(x)
	if got, e := signing.Digest(x); got != digest || e != wantE {
		t.Errorf("Digest(%+v) = %x, %d, want %x, %d", x, got, e, digest, wantE)
	}
	return wantE
}

// P16.1: the chapter's first two examples, and one of each type with a number of its own in each field; V, R and S are not looked at.
func TestExamplesOfPayload(t *testing.T) {
	zeros := "0000000000000000000000000000000000000000"
	legacy := api.Tx{Nonce: 2, Price: api.U256{3}, Gas: 4, Create: true, Value: api.U256{5}, Data: []byte{6}}
	bound := legacy
	bound.Chain = 7
	entries := []api.AccessEntry{{Keys: []api.Hash{{}}}, {}}
	for _, c := range []struct {
		x    api.Tx
		want string
	}{
		{api.Tx{Gas: 21000}, "dc 80 80 82 5208 94 " + zeros + " 80 80"},
		{api.Tx{Gas: 21000, Chain: 1}, "df 80 80 82 5208 94 " + zeros + " 80 80 01 80 80"},
		{api.Tx{Type: 1, Chain: 1, Create: true}, "01 c8 01 80 80 80 80 80 80 c0"},
		{api.Tx{Type: 2, Chain: 1, Create: true}, "02 c9 01 80 80 80 80 80 80 80 c0"},
		{legacy, "c6 02 03 04 80 05 06"},
		{bound, "c9 02 03 04 80 05 06 07 80 80"},
		{api.Tx{Create: true, Chain: api.MaxChain}, "d1 80 80 80 80 80 80 88 7fffffffffffffff 80 80"},
		{api.Tx{Type: 1, Nonce: 2, Price: api.U256{3}, Gas: 4, Create: true, Value: api.U256{5}, Data: []byte{6}}, "01 c8 80 02 03 04 80 05 06 c0"},
		{api.Tx{Type: 1, Chain: 1, Nonce: 2, Price: api.U256{3}, Gas: 4, Create: true, Value: api.U256{5}, Data: []byte{6}, Access: entries}, "01 f858 01 02 03 04 80 05 06 f84f f7 94 " + zeros + " e1 a0 " + zeros + "000000000000000000000000 d6 94 " + zeros + " c0"},
		{api.Tx{Type: 2, Chain: 1, Nonce: 2, Tip: api.U256{3}, Cap: api.U256{4}, Gas: 5, Create: true, Value: api.U256{6}, Data: []byte{7}}, "02 c9 01 02 03 04 05 80 06 07 c0"},
		{api.Tx{Type: 3, Chain: 1, Nonce: 2, Tip: api.U256{3}, Cap: api.U256{4}, Gas: 5, Value: api.U256{6}, Data: []byte{7}, BlobCap: api.U256{10}, BlobHashes: []api.Hash{{1, 31: 11}}}, "03 f840 01 02 03 04 05 94 " + zeros + " 06 07 c0 0a e1 a0 01 " + zeros + "00000000000000000000 0b"},
		{api.Tx{Type: 4, Chain: 1, Nonce: 2, Tip: api.U256{3}, Cap: api.U256{4}, Gas: 5, Value: api.U256{6}, Data: []byte{7}, Auths: []api.Auth{{Chain: api.U256{10}, Nonce: 11, Parity: 12, R: api.U256{13}, S: api.U256{14}}}}, "04 f839 01 02 03 04 05 94 " + zeros + " 06 07 c0 db da 0a 94 " + zeros + " 0b 0c 0d 0e"},
	} {
		for _, v := range []api.U256{{}, {1}, {2}, {27}, {28}, {35}, {37}, {38}, top} {
			c.x.V, c.x.R, c.x.S = v, v, v
			if b, e := signing.Payload(c.x); !bytes.Equal(b, digits(c.want)) || e != api.OK {
				t.Errorf("Payload(%+v) = %x, %d, want %s", c.x, b, e, c.want)
			}
			if h, e := signing.Digest(c.x); h != keccak.Sum(digits(c.want)) || e != api.OK {
				t.Errorf("Digest(%+v) = %x, %d", c.x, h, e)
			}
			checkPayload(t, c.x)
		}
	}
}

// P16.1: digests that are known from elsewhere: EIP-155's, and three of go-ethereum's tests.
func TestKnownDigests(t *testing.T) {
	receiver := api.Address(digits("b94f5374fce5edbc8e2a8697c15331677e6ebf0b"))
	for _, c := range []struct {
		x    api.Tx
		want string
	}{
		{api.Tx{Chain: 1, Nonce: 9, Price: api.U256{20000000000}, Gas: 21000, To: api.Address(bytes.Repeat([]byte{0x35}, 20)), Value: api.U256{1000000000000000000}}, "daf5a779ae972f972197303d7b574746c7ef83eadac0f2791ad23db92e4c8e53"},
		{api.Tx{Type: 1, Chain: 1, Nonce: 1, Create: true}, "846ad7672f2a3a40c1f959cd4a8ad21786d620077084d84c8d7c077714caa139"},
		{api.Tx{Type: 1, Chain: 2, Nonce: 1, Create: true}, "367967247499343401261d718ed5aa4c9486583e4d89251afce47f4a33c33362"},
		{api.Tx{Type: 1, Chain: 1, Nonce: 3, Price: api.U256{1}, Gas: 25000, To: receiver, Value: api.U256{10}, Data: []byte{0x55, 0x44}}, "49b486f0ec0a60dfbbca2d30cb07c9e8ffb2a2ff41f29a1ab6737475f6ff69f3"},
	} {
		if h, e := signing.Digest(c.x); hex.EncodeToString(h[:]) != c.want || e != api.OK {
			t.Errorf("Digest(%+v) = %x, %d, want %s", c.x, h, e, c.want)
		}
	}
}

// P16.1: drafts by chance, and chains at the edges of their bytes; V, R and S count for nothing.
func TestPayload(t *testing.T) {
	row := chance.Row(1610)
	for kind := range kinds {
		for range 300 {
			x := anyDraft(&row, kind)
			if e := checkPayload(t, x); e != api.OK {
				t.Errorf("Payload(%+v): %d", x, e)
			}
			before, _ := signing.Payload(x)
			x.V, x.R, x.S = anyNumber(&row), anyNumber(&row), anyNumber(&row)
			if b, e := signing.Payload(x); !bytes.Equal(b, before) || e != api.OK {
				t.Errorf("Payload with another signature = %x, %d, want %x", b, e, before)
			}
		}
		for i := range 64 {
			for _, chain := range []uint64{1 << i, 1<<i - 1, 1<<i + 1} {
				x := plain(kind)
				x.Chain = chain
				checkPayload(t, x)
			}
		}
	}
}

// P16.1, P16.2, P16.3, P16.5, P0.1, P0.2: whatever tx.Draft finds, it is told first, and nothing beside it.
func TestDraftRefused(t *testing.T) {
	row := chance.Row(1611)
	for kind := range kinds {
		eachSet(faults(kind), func(put func(*api.Tx), want api.Errno) {
			x := anyDraft(&row, kind)
			put(&x)
			if want == api.OK {
				return
			}
			if b, e := signing.Payload(x); len(b) != 0 || e != want {
				t.Errorf("Payload(%+v) = %x, %d, want %d", x, b, e, want)
			}
			if h, e := signing.Digest(x); h != noHash || e != want {
				t.Errorf("Digest(%+v) = %x, %d, want %d", x, h, e, want)
			}
			if chain, bound, e := signing.Protected(x); chain != 0 || bound || e != want {
				t.Errorf("Protected(%+v) = %d, %t, %d, want %d", x, chain, bound, e, want)
			}
			for _, sig := range []api.Sig{{}, {R: one}, anySig(&row)} {
				if y, e := signing.Signed(x, sig); !isNothing(y) || e != want {
					t.Errorf("Signed(%+v) = %+v, %d, want %d", x, y, e, want)
				}
			}
			for _, key := range []api.U256{zero, one, top} {
				if y, e := signing.Sign(x, key); !isNothing(y) || e != want {
					t.Errorf("Sign(%+v) = %+v, %d, want %d", x, y, e, want)
				}
				if y, e := signing.SignWith(x, key, key); !isNothing(y) || e != want {
					t.Errorf("SignWith(%+v) = %+v, %d, want %d", x, y, e, want)
				}
			}
		})
	}
	for _, kind := range []int{-1 << 63, -1, 5, 6, 127, 128, 256, 257, 1 << 32, 1<<63 - 1} {
		x := api.Tx{Type: kind, V: one, R: one, S: one}
		if e := checkPayload(t, x); e != api.ErrTxType {
			t.Errorf("type %d: %d", kind, e)
		}
	}
}

func payloadSize(x api.Tx) int {
	items, _ := tx.Fields(x)
	if x.Type == 0 && x.Chain > 0 {
		items = append(items, scalar(new(big.Int).SetUint64(x.Chain)), text(), text())
	}
	return len(sealed(x.Type, items))
}

// P16.1, P0.7: a payload of just MaxInput bytes is taken, one of one byte more is not: the type's byte counts, and so do the three numbers of EIP-155.
func TestLongPayload(t *testing.T) {
	for _, x := range []api.Tx{plain(0), {Chain: 1}, {Chain: api.MaxChain, V: one}, plain(1), plain(2), {Type: 3, Chain: 5, BlobHashes: []api.Hash{{1}}}, plain(4)} {
		fits := filled(t, x, maxInput, payloadSize)
		want := fitting(t, fits)
		b, e := signing.Payload(fits)
		if len(b) != maxInput || e != api.OK || !bytes.Equal(b, want) {
			t.Errorf("type %d, Chain %d: %d bytes, %d", x.Type, x.Chain, len(b), e)
		}
		if h, e := signing.Digest(fits); h != keccak.Sum(want) || e != api.OK {
			t.Errorf("type %d, Chain %d: Digest %x, %d", x.Type, x.Chain, h, e)
		}
		long := fits
		long.Data = make([]byte, len(fits.Data)+1)
		for range 2 { // with one byte more, and far too long
			if b, e := signing.Payload(long); len(b) != 0 || e != api.ErrLong {
				t.Errorf("type %d, Chain %d, a byte more: %d bytes, %d", x.Type, x.Chain, len(b), e)
			}
			if h, e := signing.Digest(long); h != noHash || e != api.ErrLong {
				t.Errorf("type %d, Chain %d, a byte more: %x, %d", x.Type, x.Chain, h, e)
			}
			if chain, _, e := signing.Protected(long); chain != x.Chain || e != api.OK { // looks at no length
				t.Errorf("type %d, Chain %d, a byte more: %d, %d", x.Type, x.Chain, chain, e)
			}
			long.Data = make([]byte, 2*maxInput)
		}
		long.Chain = 1 << 63
		if b, e := signing.Payload(long); len(b) != 0 || e != api.ErrTxChain {
			t.Errorf("type %d, a byte more and a wrong Chain: %d", x.Type, e)
		}
	}
}

// fitting tells a payload that is known to fit.
func fitting(t *testing.T, x api.Tx) []byte {
	t.Helper()
	b, e := modelPayload(x)
	if e != api.OK {
		t.Fatalf("modelPayload: %d", e)
	}
	return b
}

// P16.5: type 0 with Chain 0 is for any chain, all else for one, also for the chain 0; V counts for nothing.
func TestProtected(t *testing.T) {
	row := chance.Row(1612)
	for kind := range kinds {
		for _, chain := range []uint64{0, 1, 2, 5, 1 << 32, api.MaxChain - 1, api.MaxChain} {
			x := plain(kind)
			for _, v := range []api.U256{{}, {1}, {27}, {37}, top} {
				x.Chain, x.V = chain, v
				if got, bound, e := signing.Protected(x); got != chain || bound != (kind > 0 || chain > 0) || e != api.OK {
					t.Errorf("Protected(%+v) = %d, %t, %d", x, got, bound, e)
				}
			}
		}
		for range 200 {
			x := anyDraft(&row, kind)
			if row.Below(4) == 0 {
				x.Chain |= 1 << 63
			}
			want, wantBound, wantE := modelProtected(x)
			if got, bound, e := signing.Protected(x); got != want || bound != wantBound || e != wantE {
				t.Errorf("Protected(%+v) = %d, %t, %d", x, got, bound, e)
			}
		}
	}
}

// draftOf reads a payload back: what the payload tells of a draft is all of it, if that is the draft again.
func draftOf(t *testing.T, payload []byte) api.Tx {
	t.Helper()
	kind, rest := 0, payload
	if payload[0] < 0xc0 {
		kind, rest = int(payload[0]), payload[1:]
	}
	it, e := rlp.Decode(rest)
	if e != api.OK {
		t.Fatalf("the payload %x is no item: %d", payload, e)
	}
	items, v := it.Items, zero
	if kind == 0 {
		v = api.U256{27}
		if len(items) == 9 && len(items[7].Data)+len(items[8].Data) == 0 {
			chain := new(big.Int).SetBytes(items[6].Data)
			items, v = items[:6], modelV(api.Tx{Chain: chain.Uint64()}, false)
		}
	}
	x, e := tx.Decode(sealed(kind, append(items, scalar(wide(v)), text(), text())))
	if e != api.OK {
		t.Fatalf("the payload %x is of no draft: %d", payload, e)
	}
	return bare(x)
}

// P16.8: a payload tells its whole draft, so no other draft has it.
func TestPayloadTellsDraft(t *testing.T) {
	row := chance.Row(1613)
	for n := range 2000 {
		x := anyDraft(&row, n%kinds)
		b, e := signing.Payload(x)
		if e != api.OK || !tx.Same(draftOf(t, b), bare(x)) {
			t.Fatalf("Payload(%+v) = %x, %d: another draft", x, b, e)
		}
	}
}

// changed are a draft and others that differ from it, each in one thing, and from each other.
func changed(x api.Tx) []api.Tx {
	all := []api.Tx{x}
	with := func(change func(*api.Tx)) {
		y := cloned(x)
		change(&y)
		if tx.Draft(y) == api.OK {
			all = append(all, y)
		}
	}
	for i := range 63 {
		with(func(y *api.Tx) { y.Chain ^= 1 << i })
		with(func(y *api.Tx) { y.Nonce ^= 1 << i })
		with(func(y *api.Tx) { y.Gas ^= 1 << i })
	}
	for i := range 256 {
		with(func(y *api.Tx) { y.Price[i/64] ^= 1 << (i % 64) })
		with(func(y *api.Tx) { y.Tip[i/64] ^= 1 << (i % 64) })
		with(func(y *api.Tx) { y.Cap[i/64] ^= 1 << (i % 64) })
		with(func(y *api.Tx) { y.Value[i/64] ^= 1 << (i % 64) })
		with(func(y *api.Tx) { y.BlobCap[i/64] ^= 1 << (i % 64) })
	}
	for i := range 160 {
		with(func(y *api.Tx) { y.To[i/8] ^= 1 << (i % 8) })
	}
	for i := range x.Data {
		with(func(y *api.Tx) { y.Data[i] ^= 1 })
	}
	for kind := range kinds {
		if kind != x.Type {
			with(func(y *api.Tx) { y.Type = kind })
		}
	}
	with(func(y *api.Tx) { y.Create = !y.Create })
	with(func(y *api.Tx) { y.Data = append(y.Data, 0) })
	with(func(y *api.Tx) { y.Access = append(y.Access, api.AccessEntry{}) })
	with(func(y *api.Tx) { y.Access = append(y.Access, api.AccessEntry{Keys: []api.Hash{{}}}) })
	with(func(y *api.Tx) { y.BlobHashes = append(y.BlobHashes, api.Hash{1}) })
	with(func(y *api.Tx) { y.Auths = append(y.Auths, api.Auth{}) })
	with(func(y *api.Tx) { y.Auths = append(y.Auths, api.Auth{Parity: 1}) })
	return all
}

// P16.8: drafts that differ in a single bit, or in their type alone, have payloads and digests of their own.
func TestOnePayload(t *testing.T) {
	row := chance.Row(1614)
	for kind := range kinds {
		for _, x := range []api.Tx{plain(kind), anyDraft(&row, kind)} {
			all := changed(x)
			seen := map[string]int{}
			hashes := map[api.Hash]int{}
			for i, y := range all {
				b, e := signing.Payload(y)
				h, f := signing.Digest(y)
				other, twice := seen[string(b)]
				if _, known := hashes[h]; e != api.OK || f != api.OK || twice || known {
					t.Errorf("type %d: the drafts %d and %d have one payload, or %d, %d", kind, other, i, e, f)
				}
				seen[string(b)], hashes[h] = i, i
			}
			if len(all) < 500 {
				t.Errorf("type %d: only %d drafts", kind, len(all))
			}
		}
	}
}
