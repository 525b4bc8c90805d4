package ecdsa_test

import (
	"crypto/sha256"
	"math"
	"slices"
	"testing"

	"waybill/api"
	"waybill/ecdsa"
	"waybill/keccak"
)

// P6.1, P6.2: the chapter's example 1.
func TestNonceExamples(t *testing.T) {
	empty := keccak.Sum()
	for which, want := range []string{
		"8c4d2c9f034af713e51e750081ec1c4574247a0dfb772c45f50de0f409be7426",
		"976c64dcafb8a0b9d381b3c9b7b544ea57997ad7025af78ee7283ca11164a9a3",
	} {
		if got, e := ecdsa.Nonce(one, empty, which); got != digits(want) || e != api.OK {
			t.Errorf("Nonce(1, .., %d) = %x, %d", which, got, e)
		}
	}
	for _, c := range []struct {
		key   api.U256
		which int
		want  api.Errno
	}{{zero, 0, api.ErrKey}, {narrow(order()), 0, api.ErrKey}, {zero, 64, api.ErrArg}} {
		if got, e := ecdsa.Nonce(c.key, empty, c.which); got != zero || e != c.want {
			t.Errorf("Nonce(%x, .., %d) = %x, %d", c.key, c.which, got, e)
		}
	}
}

// known: keys, texts whose SHA-256 is signed, their nonces and their signatures' r and s, known from elsewhere.
var known = []struct{ key, text, nonce, r, s string }{
	{
		"1", "Satoshi Nakamoto",
		"8f8a276c19f4149656b280621e358cce24f5f52542772691ee69063b74f15d15",
		"934b1ea10a4b3c1757e2b0c017d0b6143ce3c9a7e6a4a49860d7a6ab210ee3d8", "2442ce9d2b916064108014783e923ec36b49743e2ffa1c4496f01a512aafd9e5",
	},
	{
		"1", "All those moments will be lost in time, like tears in rain. Time to die...",
		"38aa22d72376b4dbc472e06c3ba403ee0a394da63fc58d88686c611aba98d6b3",
		"8600dbd41e348fe5c9465ab92d23e3db8b98b873beecd930736488696438cb6b", "547fe64427496db33bf66019dacbf0039c04199abb0122918601db38a72cfc21",
	},
	{
		"fffffffffffffffffffffffffffffffebaaedce6af48a03bbfd25e8cd0364140", "Satoshi Nakamoto",
		"33a19b60e25fb6f4435af53a3d42d493644827367e6453928554f43e49aa6f90",
		"fd567d121db66e382991534ada77a6bd3106f0a1098c231e47993447cd6af2d0", "6b39cd0eb1bc8603e159ef5c20a5c8ad685a45b06ce9bebed3f153d10d93bed5",
	},
	{
		"f8b8af8ce3c7cca5e300d33939540c10d45ce001b8f252bfbc57ba0342904181", "Alan Turing",
		"525a82b70e67874398067543fd84c83d30c175fdc45fdeee082fe13b1d7cfdf1",
		"7063ae83e7f62bbb171798131b4a0564b956930092b33b07b395615d9ec7e15c", "58dfcc1e00a35e1572f366ffe34ba0fc47db1e7189759b9fb233c5b05ab388ea",
	},
}

// P6.1, P6.2: nonces that are known from elsewhere.
func TestNonceKnown(t *testing.T) {
	for _, c := range known {
		if got, e := ecdsa.Nonce(digits(c.key), sha256.Sum256([]byte(c.text)), 0); got != digits(c.nonce) || e != api.OK {
			t.Errorf("Nonce(%s, of %q, 0) = %x, %d", c.key, c.text, got, e)
		}
	}
}

// P6.1, P6.2: all nonces that may be asked for.
func TestNonce(t *testing.T) {
	for _, key := range keys() {
		for _, digest := range hashes() {
			want := modelNonces(key, digest, 64)
			for _, which := range []int{0, 1, 2, 31, 62, 63} {
				if got, e := ecdsa.Nonce(key, digest, which); got != want[which] || e != api.OK {
					t.Fatalf("Nonce(%x, %x, %d) = %x, %d, want %x", key, digest, which, got, e, want[which])
				}
			}
		}
	}
	want := modelNonces(num(3), api.Hash{5}, 64)
	for which := 63; which >= 0; which-- {
		if got, e := ecdsa.Nonce(num(3), api.Hash{5}, which); got != want[which] || e != api.OK {
			t.Errorf("Nonce(3, .., %d) = %x, %d", which, got, e)
		}
	}
}

// P6.1: digests count modulo n, all their bytes.
func TestNonceModulo(t *testing.T) {
	for _, low := range []int64{0, 1, 2, 1 << 40} {
		small, _ := ecdsa.Nonce(num(9), hash(num(uint64(low))), 0)
		great, _ := ecdsa.Nonce(num(9), hash(near(order(), low)), 0)
		if small != great {
			t.Errorf("of the digests %d and n + %d: %x, %x", low, low, small, great)
		}
	}
	none, _ := ecdsa.Nonce(num(9), api.Hash{}, 0)
	for i := range 256 {
		var digest api.Hash
		digest[i/8] = 1 << (i % 8)
		if got, _ := ecdsa.Nonce(num(9), digest, 0); got == none || got != modelNonces(num(9), digest, 1)[0] {
			t.Errorf("of a digest with the bit %d: %x", i, got)
		}
	}
}

// P6.2, P0.2: which comes ahead of the key.
func TestNonceWrong(t *testing.T) {
	for _, which := range []int{-1, -2, 64, 65, 255, 256, math.MinInt, math.MaxInt, -64, 1 << 32, -1 << 32} {
		for _, key := range slices.Concat(keys(), wrongKeys()) {
			if got, e := ecdsa.Nonce(key, api.Hash{}, which); got != zero || e != api.ErrArg {
				t.Errorf("Nonce(%x, .., %d) = %x, %d", key, which, got, e)
			}
		}
	}
	for _, which := range []int{0, 1, 63} {
		for _, key := range wrongKeys() {
			for _, digest := range hashes() {
				if got, e := ecdsa.Nonce(key, digest, which); got != zero || e != api.ErrKey {
					t.Errorf("Nonce(%x, .., %d) = %x, %d", key, which, got, e)
				}
			}
		}
	}
}

// row tells a function that gives the candidates one by one, and how often it was asked; behind their end it gives fit ones.
func row(candidates []api.U256) (next func() api.U256, asked *int) {
	asked = new(int)
	return func() api.U256 {
		*asked++
		if *asked > len(candidates) {
			return num(777)
		}
		return candidates[*asked-1]
	}, asked
}

// P6.1, P6.2: candidates that are not fit are passed over.
func TestChosen(t *testing.T) {
	mixed := []api.U256{zero, num(11), narrow(order()), top, one, near(order(), -1), near(order(), 1), zero, narrow(prime()), num(12)}
	for which, want := range []struct {
		nonce api.U256
		asked int
	}{{num(11), 2}, {one, 5}, {near(order(), -1), 6}, {num(12), 10}, {num(777), 11}, {num(777), 12}} {
		next, asked := row(mixed)
		if got, e := ecdsa.Chosen(next, which); got != want.nonce || e != api.OK || *asked != want.asked {
			t.Errorf("of the mixed ones %d: %x, %d, asked %d times", which, got, e, *asked)
		}
	}
}

// P6.2: no more than 256 candidates are drawn.
func TestChosenFew(t *testing.T) {
	for _, wrong := range []api.U256{zero, narrow(order()), top} {
		for _, c := range []struct {
			ahead, which int
			want         api.Errno
		}{
			{0, 63, api.OK}, {255, 0, api.OK}, {256, 0, api.ErrSigZero}, {257, 0, api.ErrSigZero}, {254, 1, api.OK}, {255, 1, api.ErrSigZero},
			{192, 63, api.OK}, {193, 62, api.OK}, {193, 63, api.ErrSigZero}, {1000, 63, api.ErrSigZero},
		} {
			next, asked := row(slices.Repeat([]api.U256{wrong}, c.ahead))
			got, e := ecdsa.Chosen(next, c.which)
			if e != c.want || (e == api.OK) != (got == num(777)) || (e != api.OK) != (got == zero) {
				t.Errorf("the fit one %d behind %d of %x: %x, %d", c.which, c.ahead, wrong, got, e)
			}
			if *asked != min(c.ahead+c.which+1, 256) {
				t.Errorf("the fit one %d behind %d: asked %d times", c.which, c.ahead, *asked)
			}
		}
	}
}
