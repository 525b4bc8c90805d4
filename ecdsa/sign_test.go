package ecdsa_test

import (
	"crypto/sha256"
	"slices"
	"sync"
	"testing"

	"waybill/api"
	"waybill/chance"
	"waybill/curve"
	"waybill/ecdsa"
	"waybill/keccak"
)

// P6.3, P6.4: the chapter's examples 2 to 4.
func TestSignExamples(t *testing.T) {
	last := near(order(), -1)
	for i, c := range []struct {
		sign func() (api.Sig, api.Errno)
		want api.Sig
	}{
		{
			func() (api.Sig, api.Errno) { return ecdsa.Sign(one, keccak.Sum([]byte("abc"))) },
			api.Sig{R: digits("e6cbd687d6cda3d7cf8e37214d3128a54196b42400aa1c246952a68346238856"), S: digits("1eee2ec3d64cb26e0edd6f86b19784552a39a351ea1779cdad6717e820093242"), Odd: true},
		},
		{
			func() (api.Sig, api.Errno) { return ecdsa.Sign(num(2), keccak.Sum()) },
			api.Sig{R: digits("23f71224a161ea7c281e422f140dfd6378ac16c9159dcc5b0a7723ec46522ee0"), S: digits("4a8c34cd56b3e2896176b3004d9dd196d577dfca98c5524e59f1727f2e18bc19")},
		},
		{
			func() (api.Sig, api.Errno) { return ecdsa.SignWith(one, one, api.Hash{}) },
			api.Sig{R: base.X, S: base.X},
		},
		{
			func() (api.Sig, api.Errno) { return ecdsa.SignWith(one, num(2), api.Hash{}) },
			api.Sig{R: digits("c6047f9441ed7d6d3045406e95c07cd85c778e4b8cef3ca7abac09b95c709ee5"), S: digits("1cfdc035df09414967dd5fc8b51fc1932f1ba74d912cb1ca0a132a69b9e2d12e"), Odd: true},
		},
	} {
		if got, e := c.sign(); got != c.want || e != api.OK {
			t.Errorf("the signature %d: %v, %d", i, got, e)
		}
	}
	if got, e := ecdsa.SignWith(one, zero, api.Hash{}); got != noSig || e != api.ErrKey {
		t.Errorf("SignWith(1, 0, ..) = %v, %d", got, e)
	}
	if got, e := ecdsa.Sign(last, hash(top)); got.R != digits("a7f83b5963eaf5332c633327cc967be8f4166d3f1e0b77f9761d8f4e42211e9a") || e != api.OK {
		t.Errorf("Sign(n - 1, 32 bytes ff) = %v, %d", got, e)
	}
	a, _ := ecdsa.Sign(last, api.Hash{})
	b, _ := ecdsa.Sign(last, hash(narrow(order())))
	if a != b || a == noSig {
		t.Errorf("of the digests 0 and n: %v, %v", a, b)
	}
}

// P6.4: signatures that are known from elsewhere.
func TestSignKnown(t *testing.T) {
	for _, c := range known {
		got, e := ecdsa.Sign(digits(c.key), sha256.Sum256([]byte(c.text)))
		if got.R != digits(c.r) || got.S != digits(c.s) || e != api.OK {
			t.Errorf("Sign(%s, of %q) = %v, %d", c.key, c.text, got, e)
		}
	}
}

func checkSignWith(t *testing.T, key, nonce api.U256, digest api.Hash) (api.Sig, api.Errno) {
	t.Helper()
	want, wantE := modelSignWith(key, nonce, digest)
	got, e := ecdsa.SignWith(key, nonce, digest)
	if got != want || e != wantE {
		t.Fatalf("SignWith(%v, %v, %v) = %v, %d, want %v, %d", key, nonce, digest, got, e, want, wantE)
	}
	return got, e
}

// P6.3, P0.2: SignWith of right keys and nonces and wrong ones, in all pairs.
func TestSignWith(t *testing.T) {
	all := slices.Concat(keys()[:11], wrongKeys())
	for _, key := range all {
		for _, nonce := range all {
			for _, digest := range hashes()[:4] {
				checkSignWith(t, key, nonce, digest)
			}
		}
	}
	row := chance.Row(62)
	turned := 0
	for range 200 {
		key, nonce, digest := anyKey(&row), anyKey(&row), anyHash(&row)
		s, e := checkSignWith(t, key, nonce, digest)
		if e != api.OK {
			t.Errorf("SignWith(%x, %x, %x): %d", key, nonce, digest, e)
		}
		if s.Odd != (curve.MulG(nonce).Y[0]%2 == 1) {
			turned++
		}
	}
	if turned < 50 || turned > 150 {
		t.Errorf("%d of 200 brought to the low s", turned)
	}
}

// aimed tells the digest for which the textbook signature has that s.
func aimed(key, nonce, s api.U256) api.Hash {
	return hash(sub(mul(s, nonce), mul(curve.MulG(nonce).X, key)))
}

// P6.3: an s at the edges, and which are brought to the low one.
func TestSignWithLow(t *testing.T) {
	row := chance.Row(63)
	for range 4 {
		key, nonce := anyKey(&row), anyKey(&row)
		at := curve.MulG(nonce)
		odd := at.Y[0]%2 == 1
		for _, c := range []struct{ s, want api.U256 }{
			{one, one}, {num(2), num(2)}, {near(half(), -1), near(half(), -1)}, {narrow(half()), narrow(half())},
		} {
			want := api.Sig{R: at.X, S: c.want, Odd: odd}
			if got, e := ecdsa.SignWith(key, nonce, aimed(key, nonce, c.s)); got != want || e != api.OK {
				t.Errorf("with the low s %v: %v, %d", c.s, got, e)
			}
		}
		for _, c := range []struct{ s, want api.U256 }{
			{near(half(), 1), narrow(half())}, {near(half(), 2), near(half(), -1)}, {near(order(), -2), num(2)}, {near(order(), -1), one},
		} {
			want := api.Sig{R: at.X, S: c.want, Odd: !odd}
			if got, e := ecdsa.SignWith(key, nonce, aimed(key, nonce, c.s)); got != want || e != api.OK {
				t.Errorf("with the high s %v: %v, %d", c.s, got, e)
			}
		}
	}
}

// P6.3: the nonces k and n - k give one signature.
func TestSignWithOpposite(t *testing.T) {
	row := chance.Row(64)
	for range 20 {
		key, nonce, digest := anyKey(&row), anyKey(&row), anyHash(&row)
		a, _ := ecdsa.SignWith(key, nonce, digest)
		b, _ := ecdsa.SignWith(key, sub(zero, nonce), digest)
		if a != b {
			t.Errorf("with %v and its opposite: %v, %v", nonce, a, b)
		}
	}
}

// P6.3, P0.2: an s of 0, the digest's number being below n and not.
func TestSignWithZero(t *testing.T) {
	row := chance.Row(65)
	for range 10 {
		key, nonce := anyKey(&row), anyKey(&row)
		if got, e := ecdsa.SignWith(key, nonce, aimed(key, nonce, zero)); got != noSig || e != api.ErrSigZero {
			t.Errorf("SignWith(%v, %v, ..) with the s 0 = %v, %d", key, nonce, got, e)
		}
		key = over(sub(zero, num(6)), curve.MulG(nonce).X)
		for _, digest := range []api.Hash{hash(num(6)), hash(near(order(), 6))} {
			if got, e := ecdsa.SignWith(key, nonce, digest); got != noSig || e != api.ErrSigZero {
				t.Errorf("SignWith(%v, %v, %v) = %v, %d", key, nonce, digest, got, e)
			}
		}
	}
}

// P6.3: the x of nonce times G at its edges: of n and above no r tells it, whatever s would be.
func TestTextbook(t *testing.T) {
	row := chance.Row(66)
	digest := num(1000)
	for range 5 {
		key, nonce := anyKey(&row), anyKey(&row)
		for _, x := range []api.U256{narrow(order()), near(order(), 1), near(prime(), -1)} {
			for _, k := range []api.U256{key, over(sub(zero, digest), near(order(), 1))} { // with the second key s would be 0, if x is n + 1
				if got, e := ecdsa.Textbook(k, nonce, digest, api.Point{X: x, Y: one}); got != noSig || e != api.ErrSigX {
					t.Errorf("with the x %v: %v, %d", x, got, e)
				}
			}
		}
		if got, e := ecdsa.Textbook(key, nonce, digest, api.Point{Y: one}); got != noSig || e != api.ErrSigZero {
			t.Errorf("with the x 0: %v, %d", got, e)
		}
		for _, x := range []api.U256{one, narrow(half()), near(order(), -1)} {
			want := api.Sig{R: x, S: over(add(digest, mul(x, key)), nonce), Odd: true}
			if got, e := ecdsa.Textbook(key, nonce, digest, api.Point{X: x, Y: num(3)}); got != want || e != api.OK {
				t.Errorf("with the x %v: %v, %d, want %v", x, got, e, want)
			}
			want.Odd = false
			if got, e := ecdsa.Textbook(key, nonce, digest, api.Point{X: x, Y: api.U256{2, 1, 1, 1}}); got != want || e != api.OK {
				t.Errorf("with the x %v and an even y: %v, %d, want %v", x, got, e, want)
			}
		}
	}
}

// P6.4: Sign takes the first nonce.
func TestSign(t *testing.T) {
	for _, key := range keys() {
		for _, digest := range hashes() {
			want, wantE := modelSignWith(key, modelNonces(key, digest, 1)[0], digest)
			if got, e := ecdsa.Sign(key, digest); got != want || e != wantE || e != api.OK {
				t.Errorf("Sign(%v, %v) = %v, %d, want %v, %d", key, digest, got, e, want, wantE)
			}
		}
	}
}

// P6.4, P0.2: Sign with keys that are none.
func TestSignWrong(t *testing.T) {
	for _, key := range wrongKeys() {
		for _, digest := range hashes() {
			if got, e := ecdsa.Sign(key, digest); got != noSig || e != api.ErrKey {
				t.Errorf("Sign(%v, %v) = %v, %d", key, digest, got, e)
			}
		}
	}
}

// P6.4: the first signature without an error is told, of the nonces 0 to 63 in their order.
func TestFirstSound(t *testing.T) {
	for _, fault := range []api.Errno{api.ErrSigX, api.ErrSigZero, api.ErrKey} {
		for _, right := range []int{0, 1, 2, 62, 63, 64, 1000} {
			var asked []int
			got, e := ecdsa.FirstSound(func(which int) (api.Sig, api.Errno) {
				asked = append(asked, which)
				if which < right {
					return api.Sig{R: num(99)}, fault
				}
				return api.Sig{R: num(uint64(which)), S: one, Odd: true}, api.OK
			})
			want, wantE := api.Sig{R: num(uint64(right)), S: one, Odd: true}, api.OK
			if right > 63 {
				want, wantE = noSig, api.ErrSigZero
			}
			if got != want || e != wantE {
				t.Errorf("%d being the first that will do: %v, %d", right, got, e)
			}
			if len(asked) != min(right+1, 64) {
				t.Errorf("%d being the first that will do: asked %d times", right, len(asked))
			}
			for i, which := range asked {
				if i != which {
					t.Errorf("%d was asked for at the place %d", which, i)
				}
			}
		}
	}
}

// P6.9: whose a signature is, of SignWith's answers and Sign's.
func TestWhose(t *testing.T) {
	row := chance.Row(67)
	check := func(key api.U256, digest api.Hash, s api.Sig, e api.Errno) {
		t.Helper()
		pub := curve.MulG(key)
		if e != api.OK || ecdsa.Check(s) != api.OK {
			t.Errorf("the signature of %v with %v: %v, %d", digest, key, s, e)
		}
		if got, e := ecdsa.Verify(pub, digest, s); !got || e != api.OK {
			t.Errorf("Verify(of %v, %v, %v) = %v, %d", key, digest, s, got, e)
		}
		if got, e := ecdsa.Recover(digest, s); got != pub || e != api.OK {
			t.Errorf("Recover(%v, %v) = %v, %d, want %v", digest, s, got, e, pub)
		}
	}
	for i, key := range keys() {
		digest := hashes()[i%len(hashes())]
		s, e := ecdsa.Sign(key, digest)
		check(key, digest, s, e)
		for _, nonce := range []api.U256{one, num(2), near(order(), -1), narrow(half()), anyKey(&row)} {
			s, e := ecdsa.SignWith(key, nonce, digest)
			check(key, digest, s, e)
		}
		for _, aim := range []api.U256{one, narrow(half()), near(half(), 1), near(order(), -1)} {
			nonce := anyKey(&row)
			digest := aimed(key, nonce, aim)
			s, e := ecdsa.SignWith(key, nonce, digest)
			check(key, digest, s, e)
		}
	}
	for range 60 {
		key, nonce, digest := anyKey(&row), anyKey(&row), anyHash(&row)
		s, e := ecdsa.SignWith(key, nonce, digest)
		check(key, digest, s, e)
	}
}

// P6.11, P0.6: the same again, whatever was asked in between and at one time.
func TestSame(t *testing.T) {
	row := chance.Row(68)
	type task struct {
		key    api.U256
		digest api.Hash
		nonce  api.U256
		want   api.Sig
	}
	var tasks []task
	for range 16 {
		c := task{key: anyKey(&row), digest: anyHash(&row)}
		c.nonce, _ = ecdsa.Nonce(c.key, c.digest, 5)
		c.want, _ = ecdsa.Sign(c.key, c.digest)
		tasks = append(tasks, c)
	}
	var group sync.WaitGroup
	for start := range 8 {
		group.Go(func() {
			for i := range tasks {
				c := tasks[(start*2+i)%len(tasks)]
				nonce, _ := ecdsa.Nonce(c.key, c.digest, 5)
				s, _ := ecdsa.Sign(c.key, c.digest)
				pub, _ := ecdsa.Recover(c.digest, s)
				if nonce != c.nonce || s != c.want || pub != curve.MulG(c.key) {
					t.Errorf("of the key %x: another answer", c.key)
				}
			}
		})
	}
	group.Wait()
}
