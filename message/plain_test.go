package message_test

import (
	"bytes"
	"fmt"
	"math/big"
	"testing"

	"waybill/address"
	"waybill/api"
	"waybill/chance"
	"waybill/ecdsa"
	"waybill/keccak"
	"waybill/message"
)

// order is that of the curve's group.
func order() *big.Int {
	return new(big.Int).SetBytes(digits("fffffffffffffffffffffffffffffffebaaedce6af48a03bbfd25e8cd0364141"))
}

func half() *big.Int { return new(big.Int).Rsh(order(), 1) }

// P23.1, P23.2: the chapter's first example; what web3.js's documents show for "Some data".
func TestPlainExamples(t *testing.T) {
	for s, want := range map[string]string{
		"":          "5f35dce98ba4fba25530a026ed80b2cecdaa31091ba4958b99b52ea1d068adad",
		"hello":     "50b2c43fd39106bafbba0da34fc430e1f91e3c96ea2acee2bc34119f92b37750",
		"Some data": "1da44b586eb0729ff70a73c326926f6ed5a25f5b056e7f47fbc6e58d86871655",
	} {
		if got := message.Personal([]byte(s)); got != hash(want) {
			t.Errorf("P23.1: Personal(%q) = %x", s, got)
		}
	}
	if got := message.Intended(api.Address{}, []byte("hi")); got != hash("2255cf368e14fb57912d527b433bab11cb22913021f82dc1433366f97923dcd2") {
		t.Errorf("P23.2: %x", got)
	}
}

// P23.1, P23.2, P0.7: texts of any length, where its digits become more, and beyond MaxInput.
func TestPlainLengths(t *testing.T) {
	r := chance.Row(2301)
	lengths := []int{999, 1000, 9999, 10000, 99999, 100000, 1000000, api.MaxInput, api.MaxInput + 1}
	for n := range 300 {
		lengths = append(lengths, n)
	}
	for _, n := range lengths {
		data, contract := bytes.Repeat([]byte{byte(r.Next())}, n), api.Address(r.Text(20))
		if got := message.Personal(data); got != keccak.Sum(fmt.Appendf(nil, "\x19Ethereum Signed Message:\n%d%s", n, data)) {
			t.Errorf("P23.1: Personal of %d bytes = %x", n, got)
		}
		if got := message.Intended(contract, data); got != keccak.Sum(append(append([]byte{0x19, 0x00}, contract[:]...), data...)) {
			t.Errorf("P23.2: Intended(%x) of %d bytes = %x", contract, n, got)
		}
	}
}

// P23.3: the signature that web3.js's documents show.
func TestKnownSignature(t *testing.T) {
	key := hexNumber("4c0883a69102937d6231471b5dbb6204fe5129617082792ae468d01a3f362318")
	want := api.Sig{
		R:   hexNumber("b91467e570a6466aa9e9876cbcd013baba02900b8979d43fe208a4a4f339f5fd"),
		S:   hexNumber("6007e74cd82e037b800186422fc2da167c747ef045e5d18a5f5d4300f8e1a029"),
		Odd: true,
	}
	sig, e := message.SignPersonal([]byte("Some data"), key)
	if sig != want || e != api.OK {
		t.Errorf("P23.3: SignPersonal = %v, %d", sig, e)
	}
	who, e := message.RecoverPersonal([]byte("Some data"), want)
	if who != api.Address(digits("2c7536e3605d9c16a7a3d7b1898e529396a65c23")) || e != api.OK {
		t.Errorf("P23.3: RecoverPersonal = %x, %d", who, e)
	}
}

// P23.3: what a key has signed is its own, and of no other text.
func TestSignedByKey(t *testing.T) {
	r := chance.Row(2302)
	keys := []api.U256{{1}, {2}, numberOf(plus(order(), -1)), numberOf(half()), hexNumber("4646464646464646464646464646464646464646464646464646464646464646")}
	for range 10 {
		keys = append(keys, numberOf(plus(new(big.Int).Mod(bigOf(r.Number()), plus(order(), -1)), 1)))
	}
	for n, key := range keys {
		data := r.Text(n * n)
		sig, e := message.SignPersonal(data, key)
		want, f := ecdsa.Sign(key, message.Personal(data))
		if sig != want || e != api.OK || f != api.OK {
			t.Errorf("P23.3: SignPersonal(%x, %x) = %v, %d, want %v, %d", data, key, sig, e, want, f)
		}
		own, _ := address.OfKey(key)
		if who, e := message.RecoverPersonal(data, sig); who != own || e != api.OK {
			t.Errorf("P23.3: RecoverPersonal = %x, %d, want %x", who, e, own)
		}
		if who, e := message.RecoverPersonal(append(data, 0), sig); who == own {
			t.Errorf("P23.3: of another text: %x, %d", who, e)
		}
	}
	for _, key := range []api.U256{{}, numberOf(order()), numberOf(plus(order(), 1)), numberOf(plus(power(256), -1))} {
		if sig, e := message.SignPersonal([]byte("hello"), key); sig != (api.Sig{}) || e != api.ErrKey {
			t.Errorf("P23.3: SignPersonal with %x = %v, %d", key, sig, e)
		}
	}
}

// zeroSig tells a signature of a text whose key would be the identity: R is G, which the even y tells, and s R is e G.
func zeroSig(data []byte) api.Sig {
	digest := message.Personal(data)
	s := new(big.Int).Mod(new(big.Int).SetBytes(digest[:]), order())
	sig := api.Sig{R: hexNumber("79be667ef9dcbbac55a06295ce870b07029bfcdb2dce28d959f2815b16f81798")}
	if s.Cmp(half()) > 0 {
		s.Sub(order(), s)
		sig.Odd = true
	}
	sig.S = numberOf(s)
	return sig
}

// P23.3, P0.2: signatures that are wrong, each with the error that comes first.
func TestWrongSignatures(t *testing.T) {
	data := []byte("hello")
	high, most := numberOf(plus(half(), 1)), numberOf(plus(power(256), -1))
	for _, c := range []struct {
		sig api.Sig
		e   api.Errno
	}{
		{api.Sig{}, api.ErrSigR},
		{api.Sig{S: one}, api.ErrSigR},
		{api.Sig{R: numberOf(order()), S: high}, api.ErrSigR},
		{api.Sig{R: most, S: most}, api.ErrSigR},
		{api.Sig{R: one}, api.ErrSigS},
		{api.Sig{R: api.U256{5}, S: numberOf(order())}, api.ErrSigS},
		{api.Sig{R: one, S: high}, api.ErrSigHigh},
		{api.Sig{R: api.U256{5}, S: numberOf(plus(order(), -1))}, api.ErrSigHigh},
		{api.Sig{R: api.U256{5}, S: one}, api.ErrSigX},
		{api.Sig{R: api.U256{5}, S: numberOf(half()), Odd: true}, api.ErrSigX},
		{zeroSig(data), api.ErrSigZero},
	} {
		if who, e := message.RecoverPersonal(data, c.sig); who != (api.Address{}) || e != c.e {
			t.Errorf("P23.3: RecoverPersonal of %v = %x, %d, want %d", c.sig, who, e, c.e)
		}
	}
	if _, e := message.RecoverPersonal([]byte("hullo"), zeroSig(data)); e != api.OK {
		t.Errorf("P23.3: the same of another text: %d", e)
	}
}

// P23.3: signatures by chance, held against layers 6 and 9.
func TestRecoverByChance(t *testing.T) {
	r := chance.Row(2303)
	seen := map[api.Errno]int{}
	for range 200 {
		data := r.Text(r.Below(100))
		sig := api.Sig{R: r.Number(), S: r.Number(), Odd: r.Below(2) == 0}
		if r.Below(2) == 0 {
			sig.S[3] >>= 1
		}
		var want api.Address
		key, wantE := ecdsa.Recover(message.Personal(data), sig)
		if wantE == api.OK {
			want, wantE = address.OfPoint(key)
		}
		if who, e := message.RecoverPersonal(data, sig); who != want || e != wantE {
			t.Errorf("P23.3: RecoverPersonal(%x, %v) = %x, %d, want %x, %d", data, sig, who, e, want, wantE)
		}
		seen[wantE]++
	}
	if seen[api.OK] < 10 || seen[api.ErrSigX] < 10 || seen[api.ErrSigHigh] == 0 {
		t.Errorf("seen: %v", seen)
	}
}
