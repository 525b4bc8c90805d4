package signing_test

import (
	"slices"
	"testing"

	"waybill/api"
	"waybill/chance"
	"waybill/signing"
	"waybill/tx"
)

// checkSigned holds Signed against its model (P16.2, P0.2), Signature of the answer against the signature (P16.8), and tells the answer.
func checkSigned(t *testing.T, x api.Tx, sig api.Sig) (api.Tx, api.Errno) {
	t.Helper()
	want, wantE := modelSigned(x, sig)
	got, e := signing.Signed(x, sig)
	if !tx.Same(got, want) || e != wantE {
		t.Errorf("Signed(%+v, %v) = %+v, %d, want %+v, %d", x, sig, got, e, want, wantE)
	}
	if e != api.OK {
		return got, e
	}
	if again, e := signing.Signature(got); again != sig || e != api.OK {
		t.Errorf("Signature(Signed(%+v, %v)) = %v, %d", x, sig, again, e)
	}
	if e := tx.Check(got); e != api.OK {
		t.Errorf("Check(Signed(%+v, %v)) = %d", x, sig, e)
	}
	return got, e
}

// checkSignature holds Signature against its model (P16.4, P0.2) and tells the error.
func checkSignature(t *testing.T, x api.Tx) api.Errno {
	t.Helper()
	want, wantE := modelSignature(x)
	got, e := signing.Signature(x)
	if got != want || e != wantE {
		t.Errorf("Signature(%+v) = %v, %d, want %v, %d", x, got, e, want, wantE)
	}
	return e
}

// P16.2, P16.4: the chapter's third example and the fourth.
func TestExamplesOfSigned(t *testing.T) {
	old, bound := api.Tx{Gas: 21000}, api.Tx{Gas: 21000, Chain: 1}
	access, dynamic := api.Tx{Type: 1, Chain: 1, Create: true}, api.Tx{Type: 2, Chain: 1, Create: true}
	for _, c := range []struct {
		x         api.Tx
		even, odd uint64
	}{{access, 0, 1}, {dynamic, 0, 1}, {old, 27, 28}, {bound, 37, 38}} {
		for _, odd := range []bool{false, true} {
			want := c.x
			want.V, want.R, want.S = api.U256{c.even}, one, one
			if odd {
				want.V = api.U256{c.odd}
			}
			if got, e := checkSigned(t, c.x, api.Sig{R: one, S: one, Odd: odd}); !tx.Same(got, want) || e != api.OK {
				t.Errorf("Signed(%+v) = %+v, %d", c.x, got, e)
			}
		}
		for sig, want := range map[api.Sig]api.Errno{{S: one}: api.ErrSigR, {R: one, S: near(order(), -1)}: api.ErrSigHigh} {
			if got, e := checkSigned(t, c.x, sig); !isNothing(got) || e != want {
				t.Errorf("Signed(%+v, %v) = %+v, %d, want %d", c.x, sig, got, e, want)
			}
		}
		if e := checkSignature(t, c.x); e != api.ErrUnsigned {
			t.Errorf("Signature(%+v): %d", c.x, e)
		}
	}
	for _, c := range []struct {
		x    api.Tx
		want api.Errno
	}{
		{api.Tx{Type: 1, S: one}, api.ErrSigR}, {api.Tx{Chain: 1, V: api.U256{27}}, api.ErrTxSig}, {api.Tx{Chain: 1, V: api.U256{27}, R: one, S: one}, api.ErrTxSig}, {api.Tx{Type: 5}, api.ErrTxType}, {api.Tx{Type: 5, V: one, R: one, S: one}, api.ErrTxType},
	} {
		if sig, e := signing.Signature(c.x); sig != noSig || e != c.want {
			t.Errorf("Signature(%+v) = %v, %d, want %d", c.x, sig, e, c.want)
		}
	}
}

// P16.2, P16.8: drafts and signatures by chance, chains at all edges of V; what stood in V, R and S counts for nothing, all else stays.
func TestSigned(t *testing.T) {
	row := chance.Row(1620)
	for kind := range kinds {
		for range 300 {
			x, sig := anyDraft(&row, kind), anySig(&row)
			y, e := checkSigned(t, x, sig)
			if e != api.OK || !tx.Same(bare(x), bare(y)) {
				t.Errorf("Signed(%+v, %v) = %+v, %d", x, sig, y, e)
			}
			if again, e := signing.Signed(bare(x), sig); !tx.Same(again, y) || e != api.OK {
				t.Errorf("what stood in V, R and S counts: %+v, %d", again, e)
			}
			if again, e := signing.Signed(y, sig); !tx.Same(again, y) || e != api.OK {
				t.Errorf("signed again, it is another one: %+v, %d", again, e)
			}
		}
		for i := range 63 {
			for _, chain := range []uint64{1 << i, 1<<i - 1, 1<<i + 1} {
				for _, odd := range []bool{false, true} {
					x := plain(kind)
					x.Chain = chain
					checkSigned(t, x, api.Sig{R: one, S: one, Odd: odd})
				}
			}
		}
	}
	for _, c := range []struct {
		chain uint64
		odd   bool
		v     api.U256
	}{{0, false, api.U256{27}}, {0, true, api.U256{28}}, {1, false, api.U256{37}}, {2, true, api.U256{40}}, {1<<63 - 18, true, api.U256{0, 1}}, {1<<63 - 18, false, api.U256{most}}, {api.MaxChain, false, api.U256{33, 1}}, {api.MaxChain, true, api.U256{34, 1}}} {
		if got, e := checkSigned(t, api.Tx{Chain: c.chain}, api.Sig{R: one, S: one, Odd: c.odd}); got.V != c.v || e != api.OK {
			t.Errorf("Chain %d: V %v, %d, want %v", c.chain, got.V, e, c.v)
		}
	}
}

// P16.2: signatures whose numbers may not be, at the edges.
func TestSignedRefused(t *testing.T) {
	row := chance.Row(1621)
	low, high := near(half(), 0), near(half(), 1)
	last, n := near(order(), -1), near(order(), 0)
	for kind := range kinds {
		for _, c := range []struct {
			r, s api.U256
			want api.Errno
		}{
			{one, one, api.OK}, {last, low, api.OK}, {one, low, api.OK}, {last, one, api.OK},
			{zero, one, api.ErrSigR}, {n, one, api.ErrSigR}, {top, one, api.ErrSigR}, {zero, zero, api.ErrSigR}, {zero, top, api.ErrSigR}, {n, high, api.ErrSigR},
			{one, zero, api.ErrSigS}, {one, n, api.ErrSigS}, {last, top, api.ErrSigS}, {last, zero, api.ErrSigS},
			{one, high, api.ErrSigHigh}, {last, last, api.ErrSigHigh}, {one, last, api.ErrSigHigh},
		} {
			for _, odd := range []bool{false, true} {
				x, sig := anyDraft(&row, kind), api.Sig{R: c.r, S: c.s, Odd: odd}
				y, e := checkSigned(t, x, sig)
				if e != c.want || isNothing(y) != (c.want != api.OK) {
					t.Errorf("Signed(%+v, %v): %d, want %d", x, sig, e, c.want)
				}
				x.V, x.R, x.S = modelV(x, odd), c.r, c.s
				want := c.want
				if tx.Same(x, bare(x)) {
					want = api.ErrUnsigned
				}
				if e := checkSignature(t, x); e != want {
					t.Errorf("Signature(%+v): %d, want %d", x, e, want)
				}
			}
		}
	}
}

// P16.4: only where V, R and S are all 0 a transaction is unsigned: one bit of them, and it is not.
func TestUnsigned(t *testing.T) {
	row := chance.Row(1622)
	for kind := range kinds {
		x := bare(anyDraft(&row, kind))
		if sig, e := signing.Signature(x); sig != noSig || e != api.ErrUnsigned {
			t.Errorf("Signature(%+v) = %v, %d", x, sig, e)
		}
		x.Data = make([]byte, maxInput) // its length is looked at later
		if sig, e := signing.Signature(x); sig != noSig || e != api.ErrUnsigned {
			t.Errorf("unsigned and too long: %v, %d", sig, e)
		}
		x.Data = nil
		for i := range 256 {
			for place := range 3 {
				y := x
				[]*api.U256{&y.V, &y.R, &y.S}[place][i/64] = 1 << (i % 64)
				want := api.ErrSigR
				if kind == 0 || place == 0 && i > 0 {
					want = api.ErrTxSig
				} else if place == 1 {
					want = api.ErrSigS
				}
				if e := checkSignature(t, y); e != want {
					t.Errorf("type %d, bit %d of field %d: %d, want %d", kind, i, place, e, want)
				}
			}
		}
	}
}

// P16.4, P16.6, P0.1, P0.2: of several faults the one that is named first is told, by Signature, Signer and Sender.
func TestFirstFault(t *testing.T) {
	row := chance.Row(1623)
	long := make([]byte, maxInput)
	for kind := range kinds {
		late := []fault{
			{api.ErrUnsigned, func(x *api.Tx) { x.V, x.R, x.S = zero, zero, zero }},
			{api.ErrTxSig, func(x *api.Tx) { x.V = api.U256{2} }},
			{api.ErrLong, func(x *api.Tx) { x.Data = long }},
			{api.ErrSigR, func(x *api.Tx) { x.R = near(order(), 0) }},
			{api.ErrSigS, func(x *api.Tx) { x.S = top }},
			{api.ErrSigHigh, func(x *api.Tx) { x.S = near(order(), -1) }},
		}
		eachSet(slices.Concat(faults(kind), late), func(put func(*api.Tx), want api.Errno) {
			x := bare(anyDraft(&row, kind))
			x.V, x.R, x.S = modelV(x, row.Below(2) == 0), api.U256{5}, one // no point has the x 5
			put(&x)
			sig, e := signing.Signature(x)
			if e != want || (want == api.OK) != (sig != noSig) {
				t.Errorf("Signature(type %d) = %v, %d, want %d", x.Type, sig, e, want)
			}
			if want == api.OK {
				want = api.ErrSigX
			}
			if p, e := signing.Signer(x); p != (api.Point{}) || e != want {
				t.Errorf("Signer(type %d) = %v, %d, want %d", x.Type, p, e, want)
			}
			if a, e := signing.Sender(x); a != nobody || e != want {
				t.Errorf("Sender(type %d) = %x, %d, want %d", x.Type, a, e, want)
			}
		})
	}
}

// P16.4: each V of a byte, and others, in each type and for some chains.
func TestSignatureV(t *testing.T) {
	for kind := range kinds {
		taken := 0
		for _, chain := range []uint64{0, 1, 2, 100, api.MaxChain} {
			x := plain(kind)
			x.Chain, x.R, x.S = chain, one, one
			for v := range uint64(256) {
				x.V = api.U256{v}
				if checkSignature(t, x) == api.OK {
					taken++
				}
			}
			for _, v := range []api.U256{{0, 1}, {1, 1}, {33, 1}, {34, 1}, {35, 1}, {27, 1}, {27, 0, 1}, {28, 0, 0, 1}, {1, 0, 0, 1}, top} {
				x.V = v
				if checkSignature(t, x) == api.OK {
					taken++
				}
			}
		}
		if taken != 10 { // two for each chain
			t.Errorf("type %d: %d were taken", kind, taken)
		}
	}
}

// P16.4: whatever stands in V, R and S.
func TestSignature(t *testing.T) {
	row := chance.Row(1624)
	counts := map[api.Errno]int{}
	for n := range 4000 {
		x := anyDraft(&row, n%kinds)
		if row.Below(3) > 0 {
			x.V = modelV(x, row.Below(2) == 0)
		}
		if row.Below(2) == 0 {
			x.R = anyInside(&row)
		}
		if row.Below(2) == 0 {
			x.S = anyLow(&row)
		}
		if row.Below(10) == 0 {
			x = bare(x)
		}
		counts[checkSignature(t, x)]++
	}
	for _, e := range []api.Errno{api.OK, api.ErrUnsigned, api.ErrTxSig, api.ErrSigR, api.ErrSigS, api.ErrSigHigh} {
		if counts[e] < 20 {
			t.Errorf("the answer %d hardly ever comes: %v", e, counts)
		}
	}
}

// envelopeSize tells how many bytes a transaction has with the signature that stands in it.
func envelopeSize(x api.Tx) int {
	items, _ := tx.Fields(x)
	return len(sealed(x.Type, append(items, scalar(wide(x.V)), scalar(wide(x.R)), scalar(wide(x.S)))))
}

// P16.2, P16.3, P16.4, P0.7: with its signature a transaction may have just MaxInput bytes; one more, and Payload's errors and the signature's or the key's come first, then ErrLong.
func TestLongSigned(t *testing.T) {
	wide := api.Sig{R: near(order(), -1), S: near(half(), 0), Odd: true}
	for kind := range kinds {
		for _, sig := range []api.Sig{{R: one, S: one}, wide} {
			x := plain(kind)
			x.Chain = 300 * uint64(kind%2) // V has two bytes, or one
			x.V, x.R, x.S = modelV(x, sig.Odd), sig.R, sig.S
			fits := filled(t, x, maxInput, envelopeSize)
			if y, e := signing.Signed(bare(fits), sig); !tx.Same(y, fits) || e != api.OK {
				t.Errorf("type %d of MaxInput bytes: Signed %d", kind, e)
			}
			if got, e := signing.Signature(fits); got != sig || e != api.OK {
				t.Errorf("type %d of MaxInput bytes: Signature %v, %d", kind, got, e)
			}
			long := fits
			long.Data = make([]byte, len(fits.Data)+1)
			if b, e := signing.Payload(long); len(b) == 0 || e != api.OK {
				t.Errorf("type %d of a byte more: Payload %d", kind, e)
			}
			if y, e := signing.Signed(bare(long), sig); !isNothing(y) || e != api.ErrLong {
				t.Errorf("type %d of a byte more: Signed %d", kind, e)
			}
			if got, e := signing.Signature(long); got != noSig || e != api.ErrLong {
				t.Errorf("type %d of a byte more: Signature %v, %d", kind, got, e)
			}
			for wrong, want := range map[api.Sig]api.Errno{{S: sig.S}: api.ErrSigR, {R: sig.R}: api.ErrSigS, {R: sig.R, S: near(half(), 1)}: api.ErrSigHigh} {
				if y, e := signing.Signed(long, wrong); !isNothing(y) || e != want {
					t.Errorf("type %d of a byte more, a wrong signature: %d, want %d", kind, e, want)
				}
			}
			long.Data = make([]byte, maxInput)
			if y, e := signing.Signed(long, noSig); !isNothing(y) || e != api.ErrLong {
				t.Errorf("type %d, too long a payload, a wrong signature: %d", kind, e)
			}
		}
	}
}

// P16.3, P0.7: the same of what is signed with a key.
func TestLongSign(t *testing.T) {
	key, nonce := api.U256{7}, api.U256{77}
	for _, x := range []api.Tx{plain(0), plain(4)} {
		room := len(filled(t, x, maxInput, payloadSize).Data)
		counts := map[api.Errno]int{}
		for _, more := range []int{-68, -67, -66, 0, 1} {
			x.Data = make([]byte, room+more)
			want, wantE := modelSign(x, key)
			if got, e := signing.Sign(x, key); !tx.Same(got, want) || e != wantE {
				t.Errorf("type %d, %d bytes: Sign %d, want %d", x.Type, more, e, wantE)
			}
			with, withE := modelSignWith(x, key, nonce)
			if got, e := signing.SignWith(x, key, nonce); !tx.Same(got, with) || e != withE {
				t.Errorf("type %d, %d bytes: SignWith %d, want %d", x.Type, more, e, withE)
			}
			wrong := api.ErrKey
			if more > 0 {
				wrong = api.ErrLong
			}
			if got, e := signing.Sign(x, zero); !isNothing(got) || e != wrong {
				t.Errorf("type %d, %d bytes, the key 0: %d, want %d", x.Type, more, e, wrong)
			}
			counts[wantE]++
		}
		if counts[api.OK] == 0 || counts[api.ErrLong] < 3 {
			t.Errorf("type %d: %v", x.Type, counts)
		}
	}
}
