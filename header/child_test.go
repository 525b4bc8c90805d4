package header_test

import (
	"slices"
	"testing"

	"waybill/api"
	"waybill/chance"
	"waybill/header"
)

// checkChild holds Child against its model (P19.6) and tells what it answers.
func checkChild(t *testing.T, parent, child api.Header) api.Errno {
	t.Helper()
	e := header.Child(parent, child)
	if want := modelChild(parent, child); e != want {
		t.Errorf("Child(%+v, %+v) = %d, want %d", parent, child, e, want)
	}
	return e
}

func wantChild(t *testing.T, why string, parent, child api.Header, want api.Errno) {
	t.Helper()
	if e := checkChild(t, parent, child); e != want {
		t.Errorf("%s (tails %d, %d): %d, want %d", why, parent.Tail, child.Tail, e, want)
	}
}

// turned tells a header that was changed.
func turned(h api.Header, how func(*api.Header)) api.Header {
	how(&h)
	return h
}

// P19.6: the chapter's fifth example, with each tail and each that may follow it.
func TestExamplesOfChild(t *testing.T) {
	eachTails(func(from, tail int) {
		parent, child := plainPair(from, tail)
		wantChild(t, "a right child", parent, child, api.OK)
		wantChild(t, "its Number one more", parent, turned(child, func(h *api.Header) { h.Number++ }), api.ErrHdParent)
		wantChild(t, "Used above Limit", parent, turned(child, func(h *api.Header) { h.Used = h.Limit + 1 }), api.ErrHdGas)
		base := turned(child, func(h *api.Header) { h.BaseFee[0]++ })
		nonce := turned(child, func(h *api.Header) { h.Nonce[0] = 1 })
		one := turned(child, func(h *api.Header) { h.BlobUsed = 1 })
		seven := turned(child, func(h *api.Header) { h.BlobUsed = 7 * 131072 })
		wantChild(t, "another BaseFee", parent, base, []api.Errno{api.ErrHdField, api.ErrHdBase, api.ErrHdBase, api.ErrHdBase, api.ErrHdBase}[tail])
		wantChild(t, "a Nonce", parent, nonce, []api.Errno{api.OK, api.OK, api.ErrHdField, api.ErrHdField, api.ErrHdField}[tail])
		wantChild(t, "BlobUsed 1", parent, one, []api.Errno{api.ErrHdField, api.ErrHdField, api.ErrHdField, api.ErrHdBlob, api.ErrHdBlob}[tail])
		wantChild(t, "seven blobs", parent, seven, []api.Errno{api.ErrHdField, api.ErrHdField, api.ErrHdField, api.ErrHdBlob, api.OK}[tail])
	})
}

// P19.6, 2: the three things that only mined blocks have, each in each of its parts.
func TestWork(t *testing.T) {
	eachTails(func(from, tail int) {
		parent, child := plainPair(from, tail)
		want := api.OK
		if tail >= 2 {
			want = api.ErrHdField
		}
		for i := range 4 {
			for _, v := range []uint64{1, 1 << 63} {
				wantChild(t, "Difficulty", parent, turned(child, func(h *api.Header) { h.Difficulty = api.U256{}; h.Difficulty[i] = v }), want)
			}
		}
		for i := range 8 {
			for _, b := range []byte{1, 0x80} {
				wantChild(t, "Nonce", parent, turned(child, func(h *api.Header) { h.Nonce[i] = b }), want)
			}
		}
		for i := range 32 {
			wantChild(t, "Uncles", parent, turned(child, func(h *api.Header) { h.Uncles[i] ^= 1 }), want)
		}
		for _, other := range []api.Hash{noHash, noEntries, noRequests, parent.Parent} {
			wantChild(t, "other Uncles", parent, turned(child, func(h *api.Header) { h.Uncles = other }), want)
		}
		wantChild(t, "another Mix", parent, turned(child, func(h *api.Header) { h.Mix[0] = 1 }), api.OK)
		worked := turned(parent, func(h *api.Header) { h.Difficulty, h.Nonce, h.Uncles = top, [8]byte{1}, noHash })
		wantChild(t, "the parent's work", worked, turned(child, func(h *api.Header) { h.Parent = named(worked) }), api.OK)
	})
}

// P19.6, 3: the parent's hash in each byte, the number behind the parent's, a tail below the parent's.
func TestParents(t *testing.T) {
	eachTails(func(from, tail int) {
		parent, child := plainPair(from, tail)
		for i := range 32 {
			for _, b := range []byte{1, 0x80} {
				wantChild(t, "Parent", parent, turned(child, func(h *api.Header) { h.Parent[i] ^= b }), api.ErrHdParent)
			}
		}
		wantChild(t, "another parent", turned(parent, func(h *api.Header) { h.Mix[5] = 1 }), child, api.ErrHdParent)
		wantChild(t, "itself", parent, parent, api.ErrHdParent)
		for _, c := range []struct {
			parent, child uint64
			want          api.Errno
		}{
			{0, 0, api.ErrHdParent}, {0, 1, api.OK}, {0, 2, api.ErrHdParent}, {0, most, api.ErrHdParent}, {1, 0, api.ErrHdParent}, {1, 1, api.ErrHdParent}, {1, 2, api.OK}, {7, 6, api.ErrHdParent},
			{1<<63 - 1, 1 << 63, api.OK}, {1<<63 - 1, 0, api.ErrHdParent}, {1<<32 - 1, 1 << 32, api.OK}, {most - 1, most, api.OK}, {most - 1, most - 1, api.ErrHdParent}, {most, 0, api.ErrHdParent}, {most, most, api.ErrHdParent}, {most, 1, api.ErrHdParent},
		} {
			p := turned(parent, func(h *api.Header) { h.Number = c.parent })
			wantChild(t, "Number", p, turned(child, func(h *api.Header) { h.Number, h.Parent = c.child, named(p) }), c.want)
		}
	})
	for from := range tails {
		for tail := range from { // a child of an older kind, right but for that
			parent := plain(from)
			old := plain(tail)
			_, child := plainPair(tail, tail)
			wantChild(t, "the older parent", old, child, api.OK)
			child.Parent = named(parent)
			wantChild(t, "a tail below", parent, child, api.ErrHdParent)
		}
	}
}

// P19.6, 4: times at, below and above the parent's.
func TestTimes(t *testing.T) {
	eachTails(func(from, tail int) {
		parent, child := plainPair(from, tail)
		for _, ahead := range []uint64{0, 1, 2, 999, 1 << 32, 1<<63 - 1, 1 << 63, most - 1, most} {
			p := turned(parent, func(h *api.Header) { h.Time = ahead })
			for _, time := range []uint64{0, 1, 2, ahead - 1, ahead, ahead + 1, ahead + 1000, 1 << 63, most - 1, most} {
				want := api.OK
				if time <= ahead {
					want = api.ErrHdTime
				}
				wantChild(t, "Time", p, turned(child, func(h *api.Header) { h.Time, h.Parent = time, named(p) }), want)
			}
		}
	})
}

// P19.6, 5: the gas used up to the limit; limits at both ends of what may follow, doubled ones of 2^64 and more among them.
func TestGas(t *testing.T) {
	eachTails(func(from, tail int) {
		parent, child := plainPair(from, tail)
		for _, used := range []uint64{0, 1, child.Limit - 1, child.Limit} {
			wantChild(t, "Used", parent, turned(child, func(h *api.Header) { h.Used = used }), api.OK)
		}
		for _, used := range []uint64{child.Limit + 1, 2 * child.Limit, most} {
			wantChild(t, "Used above", parent, turned(child, func(h *api.Header) { h.Used = used }), api.ErrHdGas)
		}
		for _, ahead := range []uint64{0, 1, 511, 512, 1000, 1023, 1024, 2047, 2048, 2497, 2498, 2499, 2500, 2501, 2502, 4995, 4996, 4997, 4998, 4999, 5000, 5001, 5119, 5120, 30000000, 1<<32 - 1, 1<<62 + 12345, 1<<63 - 1, 1 << 63, 1<<63 + 1, 1<<63 + 1<<52, 1<<63 + 1<<53 - 1, 1<<63 + 1<<53, 1<<63 + 1<<53 + 1<<43, 1<<63 + 1<<53 + 1<<43 + 1<<33, 1<<63 + 1<<54, most - 1<<54, most - 1, most} {
			p := turned(parent, func(h *api.Header) { h.Limit, h.Used = ahead, 0 })
			l := modelAhead(p, tail)
			d := l.Uint64() / 1024
			for _, limit := range []uint64{0, 1, 4998, 4999, 5000, 5001, 5002, 5003, ahead, 2 * ahead, l.Uint64() - d - 1, l.Uint64() - d, l.Uint64() - d + 1, l.Uint64(), l.Uint64() + d - 1, l.Uint64() + d, l.Uint64() + d + 1, 1<<64 - 1<<54, 1<<64 - 1<<54 + 1, 1<<64 - 1<<54 + 2, most - 1, most} {
				c := turned(child, func(h *api.Header) { h.Limit, h.Used, h.Parent = limit, 0, named(p) })
				if base, e := modelBase(p); tail >= 1 && e == api.OK {
					c.BaseFee = base
				}
				e := checkChild(t, p, c)
				if may := modelFollows(limit, l); may == (e == api.ErrHdGas) {
					t.Errorf("a Limit of %d behind %d (tails %d, %d): %d", limit, ahead, from, tail, e)
				} else if may && e != api.OK {
					t.Errorf("a Limit of %d behind %d (tails %d, %d): %d", limit, ahead, from, tail, e)
				}
			}
		}
	})
}

// P19.6, 5: a limit of 2^63 or more, doubled, may be followed by the greatest ones below 2^64, as far as whole numbers say so.
func TestDoubledLimits(t *testing.T) {
	wide := func(off uint64) api.Header {
		return turned(plain(0), func(h *api.Header) { h.Limit = 1<<63 + off })
	}
	low, high := uint64(0), uint64(1<<62)
	for low < high { // the last one that 2^64 - 1 may follow
		if mid := low + (high-low)/2 + 1; modelFollows(most, modelAhead(wide(mid), 1)) {
			low = mid
		} else {
			high = mid - 1
		}
	}
	if low < 1<<53 || low > 1<<54 {
		t.Fatalf("the last one: 2^63 and %d", low)
	}
	for tail := 1; tail < tails; tail++ {
		_, child := plainPair(0, tail)
		for _, off := range []uint64{0, 1, 1 << 40, 1 << 53, low - 1, low, low + 1, 1 << 54, 1 << 62, 1<<63 - 1} {
			p := wide(off)
			want := api.OK
			if off > low {
				want = api.ErrHdGas
			}
			wantChild(t, "2^64 - 1 behind a doubled one", p, turned(child, func(h *api.Header) { h.Limit, h.Used, h.Parent = most, 0, named(p) }), want)
			wantChild(t, "what is left of a doubled one", p, turned(child, func(h *api.Header) { h.Limit, h.Used, h.Parent = 2*off, 0, named(p) }), api.ErrHdGas)
		}
	}
}

// P19.6, 6: the first base fee, those that follow by the gas used, and those that can't.
func TestBases(t *testing.T) {
	eachTails(func(from, tail int) {
		if tail == 0 {
			return
		}
		parent, child := plainPair(from, tail)
		for _, used := range []uint64{0, 1, 14999999, 15000000, 15000001, 29999999, 30000000} {
			for _, base := range []api.U256{{}, {1}, {7}, {8}, {1000}, {1000000000}, {0, 1}, {most, most, most, most >> 1}} {
				p := turned(parent, func(h *api.Header) {
					if h.Used = used; from >= 1 {
						h.BaseFee = base
					}
				})
				follows, e := modelBase(p)
				if e != api.OK || from == 0 && follows != (api.U256{1000000000}) {
					t.Fatalf("modelBase: %d", e)
				}
				right := turned(child, func(h *api.Header) { h.BaseFee, h.Parent = follows, named(p) })
				wantChild(t, "BaseFee", p, right, api.OK)
				for i := range 4 {
					wantChild(t, "another BaseFee", p, turned(right, func(h *api.Header) { h.BaseFee[i]++ }), api.ErrHdBase)
					wantChild(t, "another BaseFee", p, turned(right, func(h *api.Header) { h.BaseFee[i]-- }), api.ErrHdBase)
				}
				if from >= 1 && base != follows {
					wantChild(t, "the parent's BaseFee", p, turned(right, func(h *api.Header) { h.BaseFee = base }), api.ErrHdBase)
				}
			}
		}
		if from == 0 { // what the parent used is not asked
			p := turned(parent, func(h *api.Header) { h.Used = most })
			wantChild(t, "the first BaseFee", p, turned(child, func(h *api.Header) { h.Parent = named(p) }), api.OK)
			return
		}
		for _, p := range []api.Header{turned(parent, func(h *api.Header) { h.Used = h.Limit + 1 }), turned(parent, func(h *api.Header) { h.BaseFee, h.Used = top, h.Limit })} {
			for _, base := range []api.U256{{}, p.BaseFee, {1000000000}, {875}, {1000}, {1125}} {
				wantChild(t, "a BaseFee where none follows", p, turned(child, func(h *api.Header) { h.BaseFee, h.Parent = base, named(p) }), api.ErrHdBase)
			}
		}
	})
}

// P19.6, 7: how much blob gas there may be; the excess that follows, by the child's tail, and where none does.
func TestBlobs(t *testing.T) {
	eachTails(func(from, tail int) {
		if tail < 3 {
			return
		}
		parent, child := plainPair(from, tail)
		greatest := map[int]uint64{3: 6, 4: 9}[tail]
		for n := range uint64(12) {
			want := api.OK
			if n > greatest {
				want = api.ErrHdBlob
			}
			wantChild(t, "BlobUsed", parent, turned(child, func(h *api.Header) { h.BlobUsed = n * blob }), want)
			for _, off := range []uint64{1, 2, blob / 2, blob - 1} {
				wantChild(t, "no multiple", parent, turned(child, func(h *api.Header) { h.BlobUsed = n*blob + off }), api.ErrHdBlob)
			}
		}
		for _, used := range []uint64{1 << 32, 1 << 63, most, most - blob + 1} {
			wantChild(t, "much blob gas", parent, turned(child, func(h *api.Header) { h.BlobUsed = used }), api.ErrHdBlob)
		}
		wantChild(t, "another excess", parent, turned(child, func(h *api.Header) { h.BlobExcess++ }), api.ErrHdBlob)
		wantChild(t, "another excess", parent, turned(child, func(h *api.Header) { h.BlobExcess-- }), api.ErrHdBlob)
		if from < 3 {
			wantChild(t, "a first excess", parent, turned(child, func(h *api.Header) { h.BlobExcess = blob }), api.ErrHdBlob)
			return
		}
		target := map[int]uint64{3: 3, 4: 6}[tail] * blob
		for _, c := range []struct{ excess, used uint64 }{{0, 0}, {0, target - 1}, {0, target}, {0, target + 1}, {target, 0}, {1, target}, {target - 1, 0}, {target, target}, {10 * blob, 6 * blob}, {most - blob, blob}, {most, target}, {most, 0}, {most, target - 1}} {
			p := turned(parent, func(h *api.Header) { h.BlobExcess, h.BlobUsed = c.excess, c.used })
			excess, e := modelExcess(p, tail)
			if e != api.OK {
				t.Fatalf("modelExcess: %d", e)
			}
			right := turned(child, func(h *api.Header) { h.BlobExcess, h.Parent = excess, named(p) })
			wantChild(t, "BlobExcess", p, right, api.OK)
			for _, other := range []uint64{excess + 1, excess - 1, ^excess} {
				wantChild(t, "another BlobExcess", p, turned(right, func(h *api.Header) { h.BlobExcess = other }), api.ErrHdBlob)
			}
		}
		for _, used := range []uint64{target + 1, most} {
			p := turned(parent, func(h *api.Header) { h.BlobExcess, h.BlobUsed = most, used })
			for _, excess := range []uint64{0, most, used - target - 1} {
				wantChild(t, "an excess where none follows", p, turned(child, func(h *api.Header) { h.BlobExcess, h.Parent = excess, named(p) }), api.ErrHdBlob)
			}
		}
	})
}

// scene is a parent and a child to be; its hash is the parent's, but for a stray one.
type scene struct {
	parent, child api.Header
	stray         bool
}

func (s scene) played() (parent, child api.Header) {
	s.child.Parent = named(s.parent)
	if s.stray {
		s.child.Parent[9] ^= 1
	}
	return s.parent, s.child
}

// slip is one way in which a step of P19.6 finds something wrong.
type slip struct {
	e   api.Errno
	put func(*scene)
}

// steps are the slips of each step for two tails, in P19.6's order; one of each step may be put beside those of the others.
func steps(from, tail int) [][]slip {
	all := [][]slip{
		{
			{api.ErrHdExtra, func(s *scene) { s.parent.Extra = make([]byte, 33) }},
			{api.ErrHdField, func(s *scene) { s.parent.Tail = 5 }},
			{api.ErrHdField, func(s *scene) { s.parent.Tail, s.parent.Extra = -1, make([]byte, 33) }},
		},
		{
			{api.ErrHdExtra, func(s *scene) { s.child.Extra = make([]byte, 33) }},
			{api.ErrHdField, func(s *scene) { s.child.Tail = 5 }},
			{api.ErrHdField, func(s *scene) { s.child.Tail, s.child.Extra = -1, make([]byte, 33) }},
		},
		nil,
		{
			{api.ErrHdParent, func(s *scene) { s.stray = true }},
			{api.ErrHdParent, func(s *scene) { s.child.Number++ }},
			{api.ErrHdParent, func(s *scene) { s.parent.Number, s.child.Number = most, 0 }},
		},
		{
			{api.ErrHdTime, func(s *scene) { s.child.Time = s.parent.Time }},
			{api.ErrHdTime, func(s *scene) { s.child.Time = 0 }},
		},
		{
			{api.ErrHdGas, func(s *scene) { s.child.Used = s.child.Limit + 1 }},
			{api.ErrHdGas, func(s *scene) { s.child.Limit += s.child.Limit / 1024 }},
			{api.ErrHdGas, func(s *scene) { s.child.Limit, s.child.Used = 4999, 0 }},
		},
		nil,
		nil,
	}
	if from < 4 {
		all[0] = append(all[0], slip{api.ErrHdField, func(s *scene) { s.parent.Requests[0] = 1 }})
	}
	if tail < 4 {
		all[1] = append(all[1], slip{api.ErrHdField, func(s *scene) { s.child.Requests[0] = 1 }})
	}
	if tail >= 2 {
		all[2] = []slip{
			{api.ErrHdField, func(s *scene) { s.child.Difficulty[3] = 1 }},
			{api.ErrHdField, func(s *scene) { s.child.Nonce[7] = 1 }},
			{api.ErrHdField, func(s *scene) { s.child.Uncles[31] ^= 1 }},
		}
	}
	if tail >= 1 {
		all[6] = []slip{{api.ErrHdBase, func(s *scene) { s.child.BaseFee[2] ^= 1 }}}
	}
	if from >= 1 {
		all[6] = append(all[6], slip{api.ErrHdBase, func(s *scene) { s.parent.Used = s.parent.Limit + 1 }})
	}
	if tail >= 3 {
		all[7] = []slip{
			{api.ErrHdBlob, func(s *scene) { s.child.BlobUsed++ }},
			{api.ErrHdBlob, func(s *scene) { s.child.BlobUsed = 10 * blob }},
			{api.ErrHdBlob, func(s *scene) { s.child.BlobExcess ^= 1 }},
		}
	}
	if from >= 3 {
		all[7] = append(all[7], slip{api.ErrHdBlob, func(s *scene) { s.parent.BlobExcess, s.parent.BlobUsed = most, most }})
	}
	return slices.DeleteFunc(all, func(ways []slip) bool { return len(ways) == 0 })
}

// P19.6: all sets of steps that find something wrong: the first one's error is told.
func TestOrderOfChild(t *testing.T) {
	row := chance.Row(1930)
	eachTails(func(from, tail int) {
		all := steps(from, tail)
		for set := range 1 << len(all) {
			for range 12 {
				var s scene
				s.parent, s.child = anyPair(&row, from, tail)
				want := api.OK
				for i, ways := range slices.Backward(all) {
					if set>>i&1 == 1 {
						way := ways[row.Below(len(ways))]
						way.put(&s)
						want = way.e
					}
				}
				parent, child := s.played()
				wantChild(t, "several things wrong", parent, child, want)
			}
		}
	})
}

// P19.6: right pairs by chance, with all fields that are free; pairs that are nearly right.
func TestChildByChance(t *testing.T) {
	row := chance.Row(1931)
	counts := map[api.Errno]int{}
	eachTails(func(from, tail int) {
		all := steps(from, tail)
		for range 300 {
			var s scene
			s.parent, s.child = anyPair(&row, from, tail)
			wantChild(t, "by chance", s.parent, s.child, api.OK)
			for range 1 + row.Below(2) {
				ways := all[row.Below(len(all))]
				ways[row.Below(len(ways))].put(&s)
			}
			parent, child := s.played()
			counts[checkChild(t, parent, child)]++
			counts[checkChild(t, anyHeader(&row, from), anyHeader(&row, tail))]++
		}
	})
	for _, e := range []api.Errno{api.ErrHdField, api.ErrHdExtra, api.ErrHdParent, api.ErrHdTime, api.ErrHdGas, api.ErrHdBase, api.ErrHdBlob} {
		if counts[e] < 50 {
			t.Errorf("the answer %d hardly ever comes: %v", e, counts)
		}
	}
}
