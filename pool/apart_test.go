package pool_test

import (
	"bytes"
	"slices"
	"sync"
	"testing"

	"waybill/api"
	"waybill/chance"
	"waybill/keccak"
	"waybill/pool"
)

// P24.11, P0.5: of a nil pool: ErrArg, false, 0, nothing, whatever is handed in.
func TestNil(t *testing.T) {
	var p *pool.Pool
	good := raw(1, 0, 1, 20, 21000)
	for _, b := range [][]byte{nil, {}, {0}, good, make([]byte, api.MaxInput+1)} {
		if h, e := p.Add(b); h != noHash || e != api.ErrArg {
			t.Errorf("Add = %x, %d", h, e)
		}
	}
	for _, h := range []api.Hash{{}, keccak.Sum(good)} {
		if b, e := p.Raw(h); len(b) != 0 || e != api.ErrArg {
			t.Errorf("Raw = %x, %d", b, e)
		}
		if e := p.Drop(h); e != api.ErrArg || p.Has(h) || p.Mined([]api.Hash{h}) != 0 || p.Mined(nil) != 0 {
			t.Errorf("Drop = %d", e)
		}
	}
	for _, a := range []api.Address{{}, of(1)} {
		if e := p.SetAccount(a, 7, small(plenty)); e != api.ErrArg || p.Next(a) != 0 {
			t.Errorf("SetAccount = %d", e)
		}
	}
	if e := p.SetBase(small(1)); e != api.ErrArg {
		t.Errorf("SetBase = %d", e)
	}
	if p.Len() != 0 || len(p.Waiting()) != 0 || len(p.Ready(0)) != 0 || len(p.Ready(most)) != 0 {
		t.Error("something waits")
	}
}

// P0.1: a pool that New has not made has no gas for any transaction; it answers and does not panic.
func TestNotMade(t *testing.T) {
	var p pool.Pool
	x := plain(3, 1, 20, 21000)
	x.Chain = 0
	b := signed(1, x)
	for range 2 {
		if h, e := p.Add(b); h != noHash || e != api.ErrPoolLimit {
			t.Errorf("Add = %x, %d", h, e)
		}
		if _, e := p.Raw(noHash); e != api.ErrPoolAbsent || p.Drop(noHash) != api.ErrPoolAbsent || p.Mined([]api.Hash{{}, keccak.Sum(b)}) != 0 || p.Has(noHash) || p.Len() != 0 || len(p.Waiting()) != 0 || len(p.Ready(most)) != 0 {
			t.Errorf("something waits: %d", e)
		}
		if e := p.SetBase(small(1)); e != api.OK {
			t.Errorf("SetBase = %d", e)
		}
		if e := p.SetAccount(of(1), 3, small(plenty)); e != api.OK || p.Next(of(1)) != 3 || p.Next(of(2)) != 0 {
			t.Errorf("SetAccount = %d", e)
		}
	}
}

// overwrite fills a text and its room beyond the end.
func overwrite(b []byte) {
	for i := range b[:cap(b)] {
		b[:cap(b)][i] = 0xee
	}
}

// P24.11, P0.3: bytes that are handed in are not written to, nor the room beyond their end, and not kept.
func TestBytesHandedIn(t *testing.T) {
	row := chance.Row(2440)
	w := made(t, 10, wide, 8)
	for n := range 60 {
		o := step{kind: "Add", raw: anyRaw(&row, w.m)}
		b, whole := row.Roomy(len(o.raw))
		copy(b, o.raw)
		before := bytes.Clone(whole)
		h, e := w.Add(b)
		wantH, want := o.modelled(w.m)
		if h != wantH || int(e) != want || !bytes.Equal(whole, before) {
			t.Fatalf("Add = %x, %d, want %x, %d, or it was written to", h, e, wantH, want)
		}
		overwrite(b)
		if n%5 == 0 {
			w.check(t)
		}
	}
	rich := api.Tx{Type: 4, Chain: 1, Cap: small(20), Gas: 90000, Data: row.Text(100), Access: []api.AccessEntry{{Keys: make([]api.Hash, 3)}}, Auths: make([]api.Auth, 1)}
	v := made(t, 10, 90000, 8)
	b := signed(1, rich)
	wantH, _ := v.m.add(b)
	if h, e := v.Add(b); h != wantH || e != api.OK {
		t.Fatalf("Add = %x, %d", h, e)
	}
	overwrite(b)
	v.check(t)
}

// P24.11, P0.3: hashes that are handed in are not written to, nor the room beyond their end.
func TestHashesHandedIn(t *testing.T) {
	w := made(t, 10, wide, 8)
	hashes := make([]api.Hash, 0, 9)
	for n := range uint64(3) {
		b := raw(1, n, 1, 20, 21000)
		w.adds(t, "one by one", b, api.OK)
		hashes = append(hashes, keccak.Sum(b))
	}
	hashes = append(hashes, api.Hash{7})
	before := slices.Clone(hashes[:cap(hashes)])
	if got := w.do(t, step{kind: "Mined", hashes: hashes[:3]}); got != 3 || !slices.Equal(hashes[:cap(hashes)], before) {
		t.Errorf("Mined = %d, or its hashes were written to", got)
	}
	clear(hashes[:cap(hashes)])
	w.check(t)
}

// P24.11, P0.3: who writes over an answer, or behind it, changes neither the pool nor another answer.
func TestAnswersApart(t *testing.T) {
	w := made(t, 10, wide, 20)
	for key := range uint64(4) {
		for nonce := range uint64(3) {
			w.do(t, step{kind: "Add", raw: raw(key+1, nonce, key, 20+nonce, 21000)})
		}
	}
	for _, x := range w.Waiting() {
		first, e := w.Raw(x.Hash)
		second, f := w.Raw(x.Hash)
		want := bytes.Clone(second)
		overwrite(first)
		if e != api.OK || f != api.OK || !bytes.Equal(second, want) {
			t.Fatalf("two answers of Raw share memory: %d, %d", e, f)
		}
		w.check(t)
	}
	for _, tell := range []func() []api.Waiting{w.Waiting, func() []api.Waiting { return w.Ready(most) }, func() []api.Waiting { return w.Ready(100000) }} {
		first, second := tell(), tell()
		want := slices.Clone(second)
		for i := range first[:cap(first)] {
			first[:cap(first)][i] = api.Waiting{Hash: api.Hash{0xee}, Nonce: 0xee}
		}
		if len(first) < 3 || !slices.Equal(second, want) {
			t.Fatal("two answers share memory")
		}
		w.check(t)
	}
}

// P24.11: two pools have nothing to do with one another; what comes into both waits in both.
func TestPoolsApart(t *testing.T) {
	t.Parallel()
	row := chance.Row(2441)
	for range 6 {
		a, b := made(t, 10, 50000, 4), made(t, 10, 50000, 4)
		for range 40 {
			o := anyStep(&row, a.m)
			switch row.Below(3) {
			case 0:
				a.do(t, o)
			case 1:
				b.do(t, o)
			default:
				a.do(t, o)
				b.do(t, o)
			}
			a.check(t)
			b.check(t)
		}
	}
}

// P0.6: pools that are changed and asked at one time, each by a goroutine of its own, answer as if they were alone.
func TestAtOneTime(t *testing.T) {
	t.Parallel()
	w := made(t, 10, 50000, 4)
	row := chance.Row(2442)
	var steps []step
	for range 60 {
		o := anyStep(&row, w.m)
		o.modelled(w.m)
		steps = append(steps, o)
	}
	want, ready := w.m.told(), w.m.ready(most)
	var workers sync.WaitGroup
	for range 6 {
		v := made(t, 10, 50000, 4)
		workers.Go(func() {
			for _, o := range steps {
				o.answered(v.Pool)
				v.Ready(most)
			}
			if !slices.Equal(v.Waiting(), want) || !slices.Equal(v.Ready(most), ready) {
				t.Error("at one time: another answer")
			}
		})
	}
	workers.Wait()
}

// P0.2: a call that answers an error changes nothing, and answers no hash and no bytes.
func TestRefusedChangesNothing(t *testing.T) {
	w := made(t, 10, 50000, 2)
	w.adds(t, "it waits", raw(1, 0, 1, 20, 21000), api.OK)
	w.adds(t, "it waits", raw(2, 0, 1, 20, 21000), api.OK)
	w.do(t, step{kind: "SetAccount", a: of(3), nonce: 1, v: small(1)})
	all, ready := w.Waiting(), w.Ready(most)
	for _, b := range [][]byte{nil, raw(1, 0, 1, 20, 21000), signed(1, api.Tx{Type: 1, Chain: 2, Gas: 21000}), raw(1, 0, 1, 20, 20999), raw(1, 0, 1, 20, 50001), raw(1, 0, 21, 20, 21000), raw(3, 0, 1, 99, 21000), raw(1, 0, 1, 21, 21000), raw(3, 1, 1, 99, 21000), raw(4, 0, 1, 20, 21000)} {
		for range 2 {
			if h, e := w.Add(b); h != noHash || e == api.OK || !slices.Equal(w.Waiting(), all) || !slices.Equal(w.Ready(most), ready) || w.Next(of(3)) != 1 {
				t.Errorf("Add(%x) = %x, %d, or something has changed", b, h, e)
			}
		}
	}
	w.adds(t, "the later one goes, as before", raw(4, 0, 1, 21, 21000), api.OK)
	w.has(t, "the first stays", raw(1, 0, 1, 20, 21000), raw(4, 0, 1, 21, 21000))
}
