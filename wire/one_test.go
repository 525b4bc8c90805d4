package wire_test

import (
	"bytes"
	"encoding/hex"
	"math/big"
	"slices"
	"testing"

	"waybill/address"
	"waybill/api"
	"waybill/chance"
	"waybill/curve"
	"waybill/keccak"
	"waybill/signing"
	"waybill/tx"
	"waybill/wire"
)

// checkDecodeOne holds the decoding of one thing against the layer below (P25.1, P0.2), what it tells against P0.9, and tells the error.
func checkDecodeOne[T any](t *testing.T, p paper[T], b []byte) api.Errno {
	t.Helper()
	want, wantE := p.decode(b)
	x, e := p.decodeOne(b)
	if !same(x, want) || e != wantE || e != api.OK && !isNone(x) {
		t.Errorf("Decode(%x) = %+v, %d, want %+v, %d", short(b), x, e, want, wantE)
	}
	if e == api.OK {
		if again, f := p.encodeOne(x); !bytes.Equal(again, b) || f != api.OK {
			t.Errorf("Encode of Decode(%x) = %x, %d", short(b), short(again), f)
		}
	}
	return e
}

// checkEncodeOne does it with the encoding (P25.1, P0.2, P0.8).
func checkEncodeOne[T any](t *testing.T, p paper[T], x T) api.Errno {
	t.Helper()
	want, wantE := p.encode(x)
	b, e := p.encodeOne(x)
	if !bytes.Equal(b, want) || e != wantE || e != api.OK && len(b) > 0 {
		t.Errorf("Encode = %x, %d, want %x, %d", short(b), e, short(want), wantE)
	}
	if e == api.OK {
		if again, f := p.decodeOne(b); !same(again, x) || f != api.OK {
			t.Errorf("Decode of Encode = %+v, %d, want %+v", again, f, x)
		}
	}
	return e
}

// P25.1: examples of the chapters 15 and 17, byte by byte.
func TestExamplesOfOne(t *testing.T) {
	for want, x := range map[string]api.Tx{
		"df8080825208940000000000000000000000000000000000000000" + "80801b0102": {Gas: 21000, V: api.U256{27}, R: api.U256{1}, S: api.U256{2}},
		"01cb01808080808080c0808080":   {Type: 1, Chain: 1, Create: true},
		"02cc0180808080808080c0808080": {Type: 2, Chain: 1, Create: true},
	} {
		if b, e := wire.EncodeTx(x); hex.EncodeToString(b) != want || e != api.OK {
			t.Errorf("EncodeTx = %x, %d, want %s", b, e, want)
		}
		if y, e := wire.DecodeTx(digits(want)); !same(y, x) || e != api.OK {
			t.Errorf("DecodeTx(%s) = %+v, %d", want, y, e)
		}
	}
	for text, want := range map[string]api.Errno{"": api.ErrRlpEnd, "00": api.ErrTxType, "05c0": api.ErrTxType, "80": api.ErrTxForm, "bf": api.ErrTxForm, "01": api.ErrRlpEnd, "0280": api.ErrRlpKind, "c0": api.ErrTxFields, "c9808080808080808080": api.ErrTxSig, "02cc0180808080808080c080808000": api.ErrRlpRest} {
		if x, e := wire.DecodeTx(digits(text)); !isNone(x) || e != want {
			t.Errorf("DecodeTx(%s) = %+v, %d, want %d", text, x, e, want)
		}
	}
	first := slices.Concat(digits("f90108 01 825208 b90100"), make([]byte, 256), digits("c0"))
	paper := api.Receipt{Status: 1, Used: 21000}
	if b, e := wire.EncodeReceipt(paper); !bytes.Equal(b, first) || len(b) != 267 || e != api.OK {
		t.Errorf("EncodeReceipt = %x, %d", b, e)
	}
	if r, e := wire.DecodeReceipt(first); !same(r, paper) || e != api.OK {
		t.Errorf("DecodeReceipt = %+v, %d", r, e)
	}
	for text, want := range map[string]api.Errno{"": api.ErrRlpEnd, "00": api.ErrRcType, "05c0": api.ErrRcType, "80": api.ErrRcType, "c0": api.ErrRcFields, "0180": api.ErrRcFields, "01": api.ErrRlpEnd} {
		if r, e := wire.DecodeReceipt(digits(text)); !isNone(r) || e != want {
			t.Errorf("DecodeReceipt(%s) = %+v, %d, want %d", text, r, e, want)
		}
	}
}

func tryOne[T any](t *testing.T, p paper[T]) {
	row := chance.Row(2510)
	for n := range 1000 {
		x := p.any(&row, n%kinds)
		if e := checkEncodeOne(t, p, x); e != api.OK {
			t.Errorf("well-formed: %d", e)
		}
		b, _ := p.encode(x)
		checkDecodeOne(t, p, b)
		checkDecodeOne(t, p, spoilt(&row, b))
		checkDecodeOne(t, p, append(b, 0))
	}
	for _, x := range p.wrongs {
		checkEncodeOne(t, p, x)
	}
	for first := range 256 {
		for _, rest := range []string{"", "c0", "80", "00"} {
			checkDecodeOne(t, p, append([]byte{byte(first)}, digits(rest)...))
		}
	}
}

// P25.1: right and wrong ones of all types, as the layers below have them.
func TestOne(t *testing.T) {
	t.Run("txs", func(t *testing.T) { tryOne(t, txs()) })
	t.Run("receipts", func(t *testing.T) { tryOne(t, receipts()) })
}

// stretched tells a thing of a type with so much data that what size tells of it is just so much.
func stretched[T any](t *testing.T, p paper[T], kind, want int, size func(T) int) T {
	t.Helper()
	n := 1 << 20 // so the heads have their full lengths, or nearly
	for range 4 {
		n += want - size(p.grown(kind, n))
	}
	x := p.grown(kind, n)
	if got := size(x); got != want {
		t.Fatalf("%d bytes, not %d", got, want)
	}
	return x
}

// fits tells a thing of a type whose envelope has MaxInput bytes, and the bytes.
func fits[T any](t *testing.T, p paper[T], kind int) (T, []byte) {
	t.Helper()
	x := stretched(t, p, kind, maxInput, func(x T) int {
		b, _ := p.encode(x)
		if len(b) == 0 {
			t.Fatal("too long already")
		}
		return len(b)
	})
	b, _ := p.encode(x)
	return x, b
}

func tryLongOne[T any](t *testing.T, p paper[T]) {
	for kind := range kinds {
		x, b := fits(t, p, kind)
		if e := checkEncodeOne(t, p, x); e != api.OK {
			t.Errorf("type %d, MaxInput bytes: %d", kind, e)
		}
		if e := checkDecodeOne(t, p, append(b, 0)); e != api.ErrLong {
			t.Errorf("type %d, a byte more: %d", kind, e)
		}
	}
	for _, first := range []byte{0, 1, 5, 0x80, 0xc0, 0xff} {
		b := make([]byte, maxInput+1)
		b[0] = first
		if e := checkDecodeOne(t, p, b); e != api.ErrLong {
			t.Errorf("a byte more, the first %x: %d", first, e)
		}
	}
}

// P25.1, P0.7: just MaxInput bytes, and one more.
func TestLongOne(t *testing.T) {
	t.Run("txs", func(t *testing.T) { tryLongOne(t, txs()) })
	t.Run("receipts", func(t *testing.T) { tryLongOne(t, receipts()) })
}

// checkSent holds TxHash and Sender against the models (P25.4, P0.2) and tells Sender's error.
func checkSent(t *testing.T, b []byte) api.Errno {
	t.Helper()
	want, wantE := modelTxHash(b)
	if h, e := wire.TxHash(b); h != want || e != wantE {
		t.Errorf("TxHash(%x) = %x, %d, want %x, %d", short(b), h, e, want, wantE)
	}
	who, wantE := modelSender(b)
	a, e := wire.Sender(b)
	if a != who || e != wantE {
		t.Errorf("Sender(%x) = %x, %d, want %x, %d", short(b), a, e, who, wantE)
	}
	return e
}

// known are transactions that are known from elsewhere, written down from memory: EIP-155's and the first one of mainnet; their hashes and senders would show a slip.
func known() []struct{ text, hash, sender string } {
	return []struct{ text, hash, sender string }{
		{
			"f86c098504a817c800825208943535353535353535353535353535353535353535880de0b6b3a76400008025a028ef61340bd939bc2195fe537567866003e1a15d3c71ff63e1590620aa636276a067cbe9d8997f761aecb703304b3800ccf555c9f3dc64214b297fb1966a3b6d83",
			"33469b22e9f636356c4160a87eb19df52b7412e8eac32a4a55ffe88ea8350788",
			"9d8a62f656a8d1615c1294fd71e9cfb3e4855a4f",
		},
		{
			"f86780862d79883d2000825208945df9b87991262f6ba471f09758cde1c0fc1de734827a69801ca088ff6cf0fefd94db46111149ae4bfc179e9b94721fffd821d38d16464b3f71d0a045e0aff800961cfce805daef7016b9b675c137a6a41a548f7b60a3484c06a33a",
			"5c504ed432cb51138bcf09aa5e8a410dd4a1e204ef84bfed1be16dfba1b22060",
			"a1e4380a3b1f749673e270229993ee55f35663b4",
		},
	}
}

// P25.4: transactions that are known from elsewhere.
func TestKnown(t *testing.T) {
	for _, c := range known() {
		if h, e := wire.TxHash(digits(c.text)); hex.EncodeToString(h[:]) != c.hash || e != api.OK {
			t.Errorf("TxHash = %x, %d, want %s", h, e, c.hash)
		}
		if a, e := wire.Sender(digits(c.text)); hex.EncodeToString(a[:]) != c.sender || e != api.OK {
			t.Errorf("Sender = %x, %d, want %s", a, e, c.sender)
		}
		checkSent(t, digits(c.text))
	}
}

// P25.4, P0.11: what a key has signed is its own, of all types.
func TestSigned(t *testing.T) {
	row := chance.Row(2511)
	for n := range uint64(40) {
		b := signed(&row, int(n%kinds), n+1)
		if e := checkSent(t, b); e != api.OK {
			t.Errorf("signed: %d", e)
		}
		want, _ := address.OfKey(api.U256{n + 1})
		if a, _ := wire.Sender(b); a != want {
			t.Errorf("Sender = %x, want %x", a, want)
		}
		if h, _ := wire.TxHash(b); h != keccak.Sum(b) {
			t.Errorf("TxHash = %x", h)
		}
	}
}

const (
	orderDigits = "fffffffffffffffffffffffffffffffebaaedce6af48a03bbfd25e8cd0364141" // n
	highDigits  = "7fffffffffffffffffffffffffffffff5d576e7357a4501ddfe92f46681b20a1" // the least s above n/2
)

// identity tells a signature of a transaction by which the key would be the identity: R is G or its opposite, s the digest's number or its opposite.
func identity(x api.Tx) api.Sig {
	digest, _ := signing.Digest(x)
	n := new(big.Int).SetBytes(digits(orderDigits))
	s := new(big.Int).Mod(new(big.Int).SetBytes(digest[:]), n)
	odd := s.Cmp(new(big.Int).Rsh(n, 1)) > 0 // the y of G is even
	if odd {
		s.Sub(n, s)
	}
	return api.Sig{R: curve.G().X, S: number(hex.EncodeToString(s.FillBytes(make([]byte, 32)))), Odd: odd}
}

// P25.4, P0.10: what is no sender's: each error of Sender, in its order, while TxHash goes well.
func TestNoSender(t *testing.T) {
	row := chance.Row(2512)
	one, five := api.U256{1}, api.U256{5}
	for n := range 20 {
		x := anyTx(&row, n%kinds)
		nobodys, e := signing.Signed(x, identity(x))
		if e != api.OK {
			t.Fatalf("not signed: %d", e)
		}
		for _, c := range []struct {
			r, s api.U256
			want api.Errno
		}{
			{api.U256{}, one, api.ErrSigR}, {number(orderDigits), api.U256{}, api.ErrSigR}, {top, one, api.ErrSigR}, {one, api.U256{}, api.ErrSigS}, {five, number(orderDigits), api.ErrSigS}, {one, top, api.ErrSigS},
			{five, number(highDigits), api.ErrSigHigh}, {five, one, api.ErrSigX}, {nobodys.R, nobodys.S, api.ErrSigZero},
		} {
			y := nobodys
			y.R, y.S = c.r, c.s
			b, _ := tx.Encode(y)
			if e := checkSent(t, b); e != c.want {
				t.Errorf("Sender with %x, %x: %d, want %d", c.r, c.s, e, c.want)
			}
			if h, e := wire.TxHash(b); h != keccak.Sum(b) || e != api.OK {
				t.Errorf("TxHash = %x, %d", h, e)
			}
		}
		x.R, x.S = api.U256{}, api.U256{}
		if x.Type > 0 { // of type 0 the bytes always have a V
			x.V = api.U256{}
			b, _ := tx.Encode(x)
			if e := checkSent(t, b); e != api.ErrUnsigned {
				t.Errorf("unsigned: %d", e)
			}
		}
	}
}

// P25.4, P0.7: of a text that DecodeTx refuses its error, with no hash and no sender.
func TestSentRefused(t *testing.T) {
	row := chance.Row(2513)
	seen := map[api.Errno]int{}
	for n := range 600 {
		b, _ := anyThing(&row, n)
		for _, text := range [][]byte{spoilt(&row, b), append(b, 0), b[1:]} {
			_, want := tx.Decode(text)
			if _, e := wire.TxHash(text); e != want {
				t.Errorf("TxHash(%x): %d, want %d", short(text), e, want)
			}
			seen[want]++
			checkSent(t, text)
		}
	}
	if len(seen) < 8 || seen[api.OK] < 20 {
		t.Errorf("the errors that came: %v", seen)
	}
	_, long := fits(t, txs(), 2)
	if e := checkSent(t, long); e != api.ErrUnsigned {
		t.Errorf("MaxInput bytes: %d", e)
	}
	for _, text := range [][]byte{append(long, 0), make([]byte, maxInput+1)} {
		if e := checkSent(t, text); e != api.ErrLong {
			t.Errorf("more than MaxInput bytes: %d", e)
		}
	}
}
