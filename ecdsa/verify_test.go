package ecdsa_test

import (
	"math/big"
	"slices"
	"testing"

	"waybill/api"
	"waybill/chance"
	"waybill/curve"
	"waybill/ecdsa"
)

// P6.5: the chapter's example 5.
func TestCheckExamples(t *testing.T) {
	last := near(order(), -1)
	for _, c := range []struct {
		r, s api.U256
		want api.Errno
	}{
		{one, one, api.OK}, {zero, narrow(order()), api.ErrSigR}, {one, zero, api.ErrSigS}, {one, last, api.ErrSigHigh}, {narrow(order()), one, api.ErrSigR},
		{one, narrow(half()), api.OK}, {one, near(half(), 1), api.ErrSigHigh}, {last, one, api.OK},
	} {
		if e := ecdsa.Check(api.Sig{R: c.r, S: c.s}); e != c.want {
			t.Errorf("Check of %x, %x = %d, want %d", c.r, c.s, e, c.want)
		}
	}
}

// sigs are all pairs of an r and an s at the edges, with Odd and without.
func sigs() []api.Sig {
	var all []api.Sig
	for _, r := range parts() {
		for _, s := range parts() {
			all = append(all, api.Sig{R: r, S: s}, api.Sig{R: r, S: s, Odd: true})
		}
	}
	return all
}

// P6.5 to P6.8, P0.1, P0.2: which error of a signature comes first, of all that look at one.
func TestCheck(t *testing.T) {
	seen := map[api.Errno]int{}
	for _, s := range sigs() {
		want := modelCheck(s)
		seen[want]++
		if e := ecdsa.Check(s); e != want {
			t.Errorf("Check(%v) = %d, want %d", s, e, want)
		}
		if want == api.OK {
			continue
		}
		if got, e := ecdsa.Verify(base, api.Hash{}, s); got || e != want {
			t.Errorf("Verify(G, .., %v) = %v, %d, want %d", s, got, e, want)
		}
		if got, e := ecdsa.Recover(api.Hash{}, s); got != noPoint || e != want {
			t.Errorf("Recover(.., %v) = %v, %d, want %d", s, got, e, want)
		}
		if got, e := ecdsa.Pack(s); got != nil || e != want {
			t.Errorf("Pack(%v) = %v, %d, want %d", s, got, e, want)
		}
	}
	for _, e := range []api.Errno{api.OK, api.ErrSigR, api.ErrSigS, api.ErrSigHigh} {
		if seen[e] == 0 {
			t.Errorf("%d never comes", e)
		}
	}
}

// P6.6: the chapter's example 8.
func TestVerifyExamples(t *testing.T) {
	right := api.Sig{R: base.X, S: base.X}
	if got, e := ecdsa.Verify(identity, api.Hash{}, right); got || e != api.ErrCurvePoint {
		t.Errorf("of the identity: %v, %d", got, e)
	}
	if got, e := ecdsa.Verify(base, api.Hash{}, right); !got || e != api.OK {
		t.Errorf("of G: %v, %d", got, e)
	}
	right.S = near(wide(right.S), 1)
	if got, e := ecdsa.Verify(base, api.Hash{}, right); got || e != api.OK {
		t.Errorf("with S one more: %v, %d", got, e)
	}
}

func checkVerify(t *testing.T, pub api.Point, digest api.Hash, s api.Sig) bool {
	t.Helper()
	want, wantE := modelVerify(pub, digest, s)
	got, e := ecdsa.Verify(pub, digest, s)
	if got != want || e != wantE {
		t.Fatalf("Verify(%v, %v, %v) = %v, %d, want %v, %d", pub, digest, s, got, e, want, wantE)
	}
	return got
}

// P6.6: signatures of all edges, right ones seldom.
func TestVerify(t *testing.T) {
	for i, s := range sigs() {
		for _, pub := range []api.Point{base, minus(base)} {
			checkVerify(t, pub, hashes()[i%len(hashes())], s)
		}
	}
}

// P6.6: a right signature, with something of it changed; Odd is not looked at.
func TestVerifyChanged(t *testing.T) {
	row := chance.Row(70)
	for range 4 {
		key, digest := anyKey(&row), anyHash(&row)
		pub := curve.MulG(key)
		s, _ := ecdsa.Sign(key, digest)
		turned := api.Sig{R: s.R, S: s.S, Odd: !s.Odd}
		if !checkVerify(t, pub, digest, s) || !checkVerify(t, pub, digest, turned) {
			t.Errorf("the signature %v", s)
		}
		if checkVerify(t, minus(pub), digest, s) || checkVerify(t, plus(pub, base), digest, s) || checkVerify(t, pub, anyHash(&row), s) {
			t.Errorf("the signature %v of another", s)
		}
		if high := (api.Sig{R: s.R, S: sub(zero, s.S), Odd: !s.Odd}); checkVerify(t, pub, digest, high) {
			t.Errorf("the signature %v with the high s", s)
		}
		for _, i := range []int{0, 1, 63, 64, 127, 128, 200, 254, 255} {
			r, u, d := s, s, digest
			r.R[i/64] ^= 1 << (i % 64)
			u.S[i/64] ^= 1 << (i % 64)
			d[i/8] ^= 1 << (i % 8)
			if checkVerify(t, pub, digest, r) || checkVerify(t, pub, digest, u) || checkVerify(t, pub, d, s) {
				t.Errorf("with the bit %d changed it is right", i)
			}
		}
	}
}

// P6.6: digests that are the same modulo n.
func TestVerifyModulo(t *testing.T) {
	pub := curve.MulG(num(8))
	s, _ := ecdsa.Sign(num(8), hash(num(70)))
	for v, want := range map[int64]bool{69: false, 70: true, 71: false} {
		if checkVerify(t, pub, hash(near(order(), v)), s) != want {
			t.Errorf("of n + %d: not %v", v, want)
		}
	}
}

// P6.6: what is no public key comes ahead of a signature's errors.
func TestVerifyNoPoint(t *testing.T) {
	wrong := []api.Sig{{}, {R: one}, {R: one, S: near(order(), -1)}, {R: base.X, S: base.X}, {R: top, S: top, Odd: true}}
	for _, pub := range wrongPoints() {
		for _, s := range wrong {
			if got, e := ecdsa.Verify(pub, api.Hash{}, s); got || e != api.ErrCurvePoint {
				t.Errorf("Verify(%v, .., %v) = %v, %d", pub, s, got, e)
			}
		}
	}
}

// pubOf tells the key for which the point at is the sum in P6.6.
func pubOf(at api.Point, digest api.Hash, r, s api.U256) api.Point {
	return times(over(one, r), plus(times(s, at), minus(times(number(digest), base))))
}

// P6.6: a sum whose x is n or above counts modulo n; P6.7: Recover does not take it.
func TestVerifyWide(t *testing.T) {
	row := chance.Row(71)
	for _, at := range wideX(6) {
		r := modN(wide(at.X))
		if r == zero {
			continue
		}
		s, digest := anyLow(&row), anyHash(&row)
		pub := pubOf(at, digest, r, s)
		for _, odd := range []bool{false, true} {
			sig := api.Sig{R: r, S: s, Odd: odd}
			if !checkVerify(t, pub, digest, sig) {
				t.Errorf("with the x %x: false", at.X)
			}
			if got, e := ecdsa.Recover(digest, sig); got == pub {
				t.Errorf("Recover with the x %v = %v, %d", at.X, got, e)
			}
			sig.R = near(wide(r), 1)
			if checkVerify(t, pub, digest, sig) {
				t.Errorf("with the x %x and another r: true", at.X)
			}
		}
	}
}

// P6.6: the sum is the identity: false, and no error.
func TestVerifyIdentity(t *testing.T) {
	row := chance.Row(72)
	for range 10 {
		digest := anyHash(&row)
		sig := api.Sig{R: anyKey(&row), S: anyLow(&row)}
		key := over(sub(zero, number(digest)), sig.R)
		if key == zero {
			continue
		}
		pub := curve.MulG(key)
		if got, e := ecdsa.Verify(pub, digest, sig); got || e != api.OK {
			t.Errorf("Verify(%v, %v, %v) = %v, %d", pub, digest, sig, got, e)
		}
	}
}

// P6.7: the chapter's example 6.
func TestRecoverExamples(t *testing.T) {
	if got, e := ecdsa.Recover(api.Hash{}, api.Sig{R: num(5), S: one}); got != noPoint || e != api.ErrSigX {
		t.Errorf("with r 5: %v, %d", got, e)
	}
	for _, odd := range []bool{false, true} {
		want, _ := curve.Lift(one, odd)
		if got, e := ecdsa.Recover(api.Hash{}, api.Sig{R: one, S: one, Odd: odd}); got != want || e != api.OK {
			t.Errorf("with r 1, %v: %v, %d", odd, got, e)
		}
	}
	if got, e := ecdsa.Recover(api.Hash{31: 1}, api.Sig{R: base.X, S: one}); got != noPoint || e != api.ErrSigZero {
		t.Errorf("of the identity: %v, %d", got, e)
	}
}

func checkRecover(t *testing.T, digest api.Hash, s api.Sig) api.Errno {
	t.Helper()
	want, wantE := modelRecover(digest, s)
	got, e := ecdsa.Recover(digest, s)
	if got != want || e != wantE {
		t.Fatalf("Recover(%v, %v) = %v, %d, want %v, %d", digest, s, got, e, want, wantE)
	}
	return e
}

// P6.7, P6.9, P0.2: signatures at all edges; a key that is told is taken by Verify.
func TestRecover(t *testing.T) {
	row := chance.Row(73)
	all := sigs()
	for range 100 {
		all = append(all, api.Sig{R: anyKey(&row), S: anyLow(&row), Odd: row.Below(2) == 0})
	}
	seen := map[api.Errno]int{}
	for i, s := range all {
		digest := hashes()[i%len(hashes())]
		e := checkRecover(t, digest, s)
		seen[e]++
		if e != api.OK {
			continue
		}
		pub, _ := ecdsa.Recover(digest, s)
		if got, e := ecdsa.Verify(pub, digest, s); !got || e != api.OK {
			t.Errorf("Verify(%v, %v, %v) = %v, %d", pub, digest, s, got, e)
		}
	}
	if seen[api.OK] < 50 || seen[api.ErrSigX] < 50 {
		t.Errorf("%d keys, %d times ErrSigX", seen[api.OK], seen[api.ErrSigX])
	}
}

// P6.7: r that no point has as its x, an r among them for which n more is the x of one; the other errors come ahead.
func TestRecoverX(t *testing.T) {
	beyond := 0
	for r := uint64(1); r < 60; r++ {
		_, e := curve.Lift(num(r), false)
		if e == api.OK {
			continue
		}
		if _, e := curve.Lift(near(order(), int64(r)), false); e == api.OK {
			beyond++
		}
		for _, c := range []struct {
			s    api.U256
			want api.Errno
		}{{one, api.ErrSigX}, {narrow(half()), api.ErrSigX}, {zero, api.ErrSigS}, {narrow(order()), api.ErrSigS}, {near(half(), 1), api.ErrSigHigh}} {
			for _, odd := range []bool{false, true} {
				if got, e := ecdsa.Recover(api.Hash{1}, api.Sig{R: num(r), S: c.s, Odd: odd}); got != noPoint || e != c.want {
					t.Errorf("with r %d, s %v: %v, %d", r, c.s, got, e)
				}
			}
		}
	}
	if beyond == 0 {
		t.Error("no r below a point's x")
	}
}

// P6.7, P0.2: s times R is e times G; with Odd turned there is a key.
func TestRecoverZero(t *testing.T) {
	row := chance.Row(74)
	for _, nonce := range slices.Concat(keys(), []api.U256{anyKey(&row), anyKey(&row)}) {
		at := curve.MulG(nonce)
		s := api.Sig{R: at.X, S: anyLow(&row), Odd: at.Y[0]%2 == 1}
		digest := hash(mul(s.S, nonce))
		if got, e := ecdsa.Recover(digest, s); got != noPoint || e != api.ErrSigZero {
			t.Errorf("of the identity, with the nonce %v: %v, %d", nonce, got, e)
		}
		s.Odd = !s.Odd
		if e := checkRecover(t, digest, s); e != api.OK {
			t.Errorf("with Odd turned: %d", e)
		}
	}
}

// P6.7: Odd tells which of two keys it is; the digest counts modulo n.
func TestRecoverOdd(t *testing.T) {
	row := chance.Row(75)
	for range 20 {
		key, digest := anyKey(&row), anyHash(&row)
		s, _ := ecdsa.Sign(key, digest)
		s.Odd = !s.Odd
		if got, e := ecdsa.Recover(digest, s); got == curve.MulG(key) || e != api.OK {
			t.Errorf("Recover with Odd turned = %v, %d", got, e)
		}
		checkRecover(t, digest, s)
	}
	s := api.Sig{R: base.X, S: num(3)}
	small, _ := ecdsa.Recover(hash(num(4)), s)
	great, _ := ecdsa.Recover(hash(near(order(), 4)), s)
	if small != great || small == noPoint {
		t.Errorf("of the digests 4 and n + 4: %v, %v", small, great)
	}
}

// wideX tells points with an x from n to p - 1, the first few.
func wideX(count int) []api.Point {
	var all []api.Point
	for x := order(); len(all) < count; x.Add(x, big.NewInt(1)) {
		if p, e := curve.Lift(narrow(x), false); e == api.OK {
			all = append(all, p, minus(p))
		}
	}
	return all
}
