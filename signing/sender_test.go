package signing_test

import (
	"bytes"
	"encoding/hex"
	"testing"

	"waybill/address"
	"waybill/api"
	"waybill/chance"
	"waybill/curve"
	"waybill/ecdsa"
	"waybill/signing"
	"waybill/tx"
)

// checkSender holds Signer and Sender against their models (P16.6, P0.10, P0.2) and tells the error.
func checkSender(t *testing.T, x api.Tx) api.Errno {
	t.Helper()
	want, wantE := modelSigner(x)
	if got, e := signing.Signer(x); got != want || e != wantE {
		t.Errorf("Signer(%+v) = %v, %d, want %v, %d", x, got, e, want, wantE)
	}
	who, wantE := modelSender(x)
	if got, e := signing.Sender(x); got != who || e != wantE {
		t.Errorf("Sender(%+v) = %x, %d, want %x, %d", x, got, e, who, wantE)
	}
	return wantE
}

// checkGenuine holds a signed transaction against P16.7: the signature is the one that was made of the digest, and the key's own.
func checkGenuine(t *testing.T, x api.Tx, sig api.Sig, key api.U256) {
	t.Helper()
	if got, e := signing.Signature(x); got != sig || e != api.OK {
		t.Errorf("Signature(%+v) = %v, %d, want %v", x, got, e, sig)
	}
	if got, e := signing.Signer(x); got != curve.MulG(key) || e != api.OK {
		t.Errorf("Signer of what %x has signed = %v, %d", key, got, e)
	}
	want, _ := address.OfKey(key)
	if got, e := signing.Sender(x); got != want || e != api.OK {
		t.Errorf("Sender of what %x has signed = %x, %d, want %x", key, got, e, want)
	}
	checkSender(t, x)
}

// P16.3, P16.6: the chapter's fifth example, and the document's first and third.
func TestExamplesOfSender(t *testing.T) {
	row := chance.Row(1630)
	for n := range 50 {
		signed, e := signing.Sign(anyDraft(&row, n%kinds), one)
		who, f := signing.Sender(signed)
		if !bytes.Equal(who[:], digits("7e5f4552091a69125d5dfcb7b8c2659029395bdf")) || e != api.OK || f != api.OK {
			t.Errorf("signed with the key 1: %x, %d, %d", who, e, f)
		}
	}
	for _, v := range []uint64{27, 28} {
		if who, e := signing.Sender(api.Tx{V: api.U256{v}, R: api.U256{5}, S: one}); who != nobody || e != api.ErrSigX {
			t.Errorf("Sender with R 5 = %x, %d", who, e)
		}
	}
	if x, e := signing.Sign(api.Tx{}, zero); !isNothing(x) || e != api.ErrKey {
		t.Errorf("Sign with the key 0: %d", e)
	}
}

// P16.3, P16.6: EIP-155's transaction, signed with its key: each byte is known from elsewhere.
func TestKnownSigned(t *testing.T) {
	key := number("4646464646464646464646464646464646464646464646464646464646464646")
	draft := api.Tx{Chain: 1, Nonce: 9, Price: api.U256{20000000000}, Gas: 21000, To: api.Address(bytes.Repeat([]byte{0x35}, 20)), Value: api.U256{1000000000000000000}}
	if b, e := signing.Payload(draft); hex.EncodeToString(b) != "ec098504a817c800825208943535353535353535353535353535353535353535880de0b6b3a764000080018080" || e != api.OK {
		t.Errorf("Payload = %x, %d", b, e)
	}
	signed, e := signing.Sign(draft, key)
	if e != api.OK {
		t.Fatalf("Sign: %d", e)
	}
	b, _ := tx.Encode(signed)
	if hex.EncodeToString(b) != "f86c098504a817c800825208943535353535353535353535353535353535353535880de0b6b3a76400008025a028ef61340bd939bc2195fe537567866003e1a15d3c71ff63e1590620aa636276a067cbe9d8997f761aecb703304b3800ccf555c9f3dc64214b297fb1966a3b6d83" {
		t.Errorf("signed, it is %x", b)
	}
	if who, e := signing.Sender(signed); hex.EncodeToString(who[:]) != "9d8a62f656a8d1615c1294fd71e9cfb3e4855a4f" || e != api.OK {
		t.Errorf("Sender = %x, %d", who, e)
	}
}

// P16.6: go-ethereum's tests of EIP-155: transactions whose r and s are nearly the same, and who has sent them.
func TestKnownSenders(t *testing.T) {
	for _, c := range []struct{ bytes, want string }{
		{"f864808504a817c800825208943535353535353535353535353535353535353535808025a0044852b2a670ade5407e78fb2863c51de9fcb96542a07186fe3aeda6bb8a116da0044852b2a670ade5407e78fb2863c51de9fcb96542a07186fe3aeda6bb8a116d", "f0f6f18bca1b28cd68e4357452947e021241e9ce"},
		{"f864018504a817c80182a410943535353535353535353535353535353535353535018025a0489efdaa54c0f20c7adf612882df0950f5a951637e0307cdcb4c672f298b8bcaa0489efdaa54c0f20c7adf612882df0950f5a951637e0307cdcb4c672f298b8bc6", "23ef145a395ea3fa3deb533b8a9e1b4c6c25d112"},
		{"f864028504a817c80282f618943535353535353535353535353535353535353535088025a02d7c5bef027816a800da1736444fb58a807ef4c9603b7848673f7e3a68eb14a5a02d7c5bef027816a800da1736444fb58a807ef4c9603b7848673f7e3a68eb14a5", "2e485e0c23b4c3c542628a5f672eeab0ad4888be"},
		{"f865038504a817c803830148209435353535353535353535353535353535353535351b8025a02a80e1ef1d7842f27f2e6be0972bb708b9a135c38860dbe73c27c3486c34f4e0a02a80e1ef1d7842f27f2e6be0972bb708b9a135c38860dbe73c27c3486c34f4de", "82a88539669a3fd524d669e858935de5e5410cf0"},
		{"f865048504a817c80483019a28943535353535353535353535353535353535353535408025a013600b294191fc92924bb3ce4b969c1e7e2bab8f4c93c3fc6d0a51733df3c063a013600b294191fc92924bb3ce4b969c1e7e2bab8f4c93c3fc6d0a51733df3c060", "f9358f2538fd5ccfeb848b64a96b743fcc930554"},
		{"f865058504a817c8058301ec309435353535353535353535353535353535353535357d8025a04eebf77a833b30520287ddd9478ff51abbdffa30aa90a8d655dba0e8a79ce0c1a04eebf77a833b30520287ddd9478ff51abbdffa30aa90a8d655dba0e8a79ce0c1", "a8f7aba377317440bc5b26198a363ad22af1f3a4"},
		{"f866068504a817c80683023e3894353535353535353535353535353535353535353581d88025a06455bf8ea6e7463a1046a0b52804526e119b4bf5136279614e0b1e8e296a4e2fa06455bf8ea6e7463a1046a0b52804526e119b4bf5136279614e0b1e8e296a4e2d", "f1f571dc362a0e5b2696b8e775f8491d3e50de35"},
		{"f867078504a817c807830290409435353535353535353535353535353535353535358201578025a052f1a9b320cab38e5da8a8f97989383aab0a49165fc91c737310e4f7e9821021a052f1a9b320cab38e5da8a8f97989383aab0a49165fc91c737310e4f7e9821021", "d37922162ab7cea97c97a87551ed02c9a38b7332"},
		{"f867088504a817c8088302e2489435353535353535353535353535353535353535358202008025a064b1702d9298fee62dfeccc57d322a463ad55ca201256d01f62b45b2e1c21c12a064b1702d9298fee62dfeccc57d322a463ad55ca201256d01f62b45b2e1c21c10", "9bddad43f934d313c2b79ca28a432dd2b7281029"},
		{"f867098504a817c809830334509435353535353535353535353535353535353535358202d98025a052f8f61201b2b11a78d6e866abc9c3db2ae8631fa656bfe5cb53668255367afba052f8f61201b2b11a78d6e866abc9c3db2ae8631fa656bfe5cb53668255367afb", "3c24d7329e92f84f08556ceb6df1cdb0104ca49f"},
	} {
		x, e := tx.Decode(digits(c.bytes))
		if e != api.OK {
			t.Errorf("Decode(%s): %d", c.bytes, e)
			continue
		}
		if who, e := signing.Sender(x); hex.EncodeToString(who[:]) != c.want || e != api.OK {
			t.Errorf("Sender of %s = %x, %d, want %s", c.bytes, who, e, c.want)
		}
		checkSender(t, x)
	}
}

// keysOf tells keys at both ends and by chance.
func keysOf(row *chance.Row, count int) []api.U256 {
	all := []api.U256{{1}, {2}, {3}, near(order(), -1), near(order(), -2), near(half(), 0), near(half(), 1)}
	for range count {
		all = append(all, anyInside(row))
	}
	return all
}

// P16.3, P16.7, P0.11: whoever signs is told, whatever stood in V, R and S; all else stays, and signed again it is the same.
func TestSign(t *testing.T) {
	row := chance.Row(1631)
	odds := map[bool]int{}
	for kind := range kinds {
		for _, key := range keysOf(&row, 20) {
			x := anyDraft(&row, kind)
			want, wantE := modelSign(x, key)
			signed, e := signing.Sign(x, key)
			if !tx.Same(signed, want) || e != wantE || e != api.OK || !tx.Same(bare(signed), bare(x)) {
				t.Errorf("Sign(%+v, %x) = %+v, %d, want %+v", x, key, signed, e, want)
			}
			digest, _ := modelDigest(x)
			sig, _ := ecdsa.Sign(key, digest)
			checkGenuine(t, signed, sig, key)
			for _, other := range []api.Tx{bare(x), signed} {
				if again, e := signing.Sign(other, key); !tx.Same(again, signed) || e != api.OK {
					t.Errorf("what stood in V, R and S counts: %+v, %d", again, e)
				}
			}
			odds[sig.Odd]++
		}
	}
	if odds[false] < 30 || odds[true] < 30 {
		t.Errorf("the parities that came: %v", odds)
	}
}

// P16.3, P16.7, P0.11: the same with nonces that are given.
func TestSignWith(t *testing.T) {
	row := chance.Row(1632)
	for kind := range kinds {
		for _, key := range keysOf(&row, 3) {
			for _, nonce := range []api.U256{one, near(order(), -1), anyInside(&row), key} {
				x := anyDraft(&row, kind)
				want, wantE := modelSignWith(x, key, nonce)
				signed, e := signing.SignWith(x, key, nonce)
				if !tx.Same(signed, want) || e != wantE || e != api.OK || !tx.Same(bare(signed), bare(x)) {
					t.Errorf("SignWith(%+v, %x, %x) = %+v, %d, want %+v", x, key, nonce, signed, e, want)
				}
				digest, _ := modelDigest(x)
				sig, _ := ecdsa.SignWith(key, nonce, digest)
				checkGenuine(t, signed, sig, key)
				if again, e := signing.SignWith(signed, key, nonce); !tx.Same(again, signed) || e != api.OK {
					t.Errorf("signed again, it is another one: %+v, %d", again, e)
				}
			}
		}
	}
}

// P16.3: keys and nonces that are none, and a key with which s would be 0.
func TestSignRefused(t *testing.T) {
	row := chance.Row(1633)
	wrong := []api.U256{zero, near(order(), 0), near(order(), 1), top}
	for kind := range kinds {
		x := anyDraft(&row, kind)
		for _, bad := range wrong {
			if y, e := signing.Sign(x, bad); !isNothing(y) || e != api.ErrKey {
				t.Errorf("Sign with %x: %+v, %d", bad, y, e)
			}
			for _, other := range append(wrong, one) {
				if y, e := signing.SignWith(x, bad, other); !isNothing(y) || e != api.ErrKey {
					t.Errorf("SignWith %x, %x: %+v, %d", bad, other, y, e)
				}
				if y, e := signing.SignWith(x, other, bad); !isNothing(y) || e != api.ErrKey {
					t.Errorf("SignWith %x, %x: %+v, %d", other, bad, y, e)
				}
			}
		}
		digest, _ := modelDigest(x)
		nonce := anyInside(&row)
		key := over(opposite(numberOf(digest)), curve.MulG(nonce).X) // e + r d is 0
		if y, e := signing.SignWith(x, key, nonce); !isNothing(y) || e != api.ErrSigZero {
			t.Errorf("SignWith, s being 0: %+v, %d", y, e)
		}
		if y, e := signing.Sign(x, key); isNothing(y) || e != api.OK {
			t.Errorf("Sign with the same key: %d", e)
		}
	}
}

// P16.6, P0.10: signatures that nobody has made tell somebody too, or are refused.
func TestSender(t *testing.T) {
	row := chance.Row(1634)
	counts := map[api.Errno]int{}
	for n := range 1000 {
		x := anyDraft(&row, n%kinds)
		if row.Below(6) > 0 {
			x.V = modelV(x, row.Below(2) == 0)
		}
		if row.Below(3) > 0 {
			x.R = anyInside(&row)
		}
		if row.Below(3) > 0 {
			x.S = anyLow(&row)
		}
		if row.Below(10) == 0 {
			x = bare(x)
		}
		counts[checkSender(t, x)]++
	}
	for _, e := range []api.Errno{api.OK, api.ErrUnsigned, api.ErrTxSig, api.ErrSigR, api.ErrSigS, api.ErrSigHigh, api.ErrSigX} {
		if counts[e] < 5 {
			t.Errorf("the answer %d hardly ever comes: %v", e, counts)
		}
	}
}

// P16.6, P0.10: R being G, or its opposite, and s the digest's number or its opposite, the key would be the identity.
func TestSenderNobody(t *testing.T) {
	row := chance.Row(1635)
	odds := map[bool]int{}
	for n := range 40 {
		x := anyDraft(&row, n%kinds)
		digest, _ := modelDigest(x)
		sig := api.Sig{R: curve.G().X, S: numberOf(digest)} // the y of G is even
		if wide(sig.S).Cmp(half()) > 0 {
			sig.S, sig.Odd = opposite(sig.S), true
		}
		odds[sig.Odd]++
		signed, e := checkSigned(t, x, sig)
		if f := checkSender(t, signed); e != api.OK || f != api.ErrSigZero {
			t.Errorf("Signed %d, Sender %d", e, f)
		}
		sig.Odd = !sig.Odd
		signed, e = checkSigned(t, x, sig)
		if f := checkSender(t, signed); e != api.OK || f != api.OK {
			t.Errorf("the other point: Signed %d, Sender %d", e, f)
		}
	}
	if odds[false] < 5 || odds[true] < 5 {
		t.Errorf("the parities that came: %v", odds)
	}
}

// P16.6, P16.8: a signature for one draft is none of the key for another: another chain, type, nonce, another anything tells somebody else, or nobody.
func TestSenderOfChanged(t *testing.T) {
	row := chance.Row(1636)
	for kind := range kinds {
		x := anyDraft(&row, kind)
		key := anyInside(&row)
		owner, _ := address.OfKey(key)
		signed, _ := signing.Sign(x, key)
		sig, _ := signing.Signature(signed)
		all := changed(bare(x))
		for i := 0; i < len(all); i += 1 + row.Below(20) {
			y, e := signing.Signed(all[i], sig)
			if who, _ := signing.Sender(y); e != api.OK || (who == owner) != (i == 0) {
				t.Errorf("type %d, the change %d: Sender %x, %d", kind, i, who, e)
			}
		}
		signed.V = modelV(x, !sig.Odd)
		if who, _ := signing.Sender(signed); who == owner {
			t.Errorf("type %d: the other parity tells the same sender", kind)
		}
	}
}
