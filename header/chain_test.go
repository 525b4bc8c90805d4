package header_test

import (
	"testing"

	"waybill/api"
	"waybill/chance"
	"waybill/header"
)

// anyChain tells so many headers, each a right child of the one ahead of it, their tails rising.
func anyChain(row *chance.Row, n int) []api.Header {
	var all []api.Header
	h := anyParent(row, 0)
	h.Number, h.Time, h.Limit = h.Number>>1, h.Time>>1, 30000000+uint64(row.Below(1000))
	h.Used = h.Limit / 3
	for i := range n {
		all = append(all, h)
		tail := min(h.Tail+row.Below(4)/3, 4)
		next, e := modelNext(h, h.Time+1+uint64(row.Below(20)), tail)
		if e != api.OK {
			panic("no child")
		}
		next.Used, next.Extra = row.Next()%(next.Limit+1), row.Text(i%33)
		if tail >= 3 {
			next.BlobUsed = uint64(row.Below(7) * blob)
		}
		h = next
	}
	return all
}

func checkChain(t *testing.T, all []api.Header) (int, api.Errno) {
	t.Helper()
	n, e := header.Chain(all)
	if wantN, want := modelChain(all); n != wantN || e != want {
		t.Errorf("Chain of %d: %d, %d, want %d, %d", len(all), n, e, wantN, want)
	}
	return n, e
}

// P19.9: no headers, one, right ones.
func TestChain(t *testing.T) {
	row := chance.Row(1950)
	for _, none := range [][]api.Header{nil, {}, make([]api.Header, 0, 3)} {
		if n, e := checkChain(t, none); n != 0 || e != api.OK {
			t.Errorf("no headers: %d, %d", n, e)
		}
	}
	for tail := range tails {
		if n, e := checkChain(t, []api.Header{anyHeader(&row, tail)}); n != 1 || e != api.OK {
			t.Errorf("one header: %d, %d", n, e)
		}
	}
	for n := range 40 {
		if got, e := checkChain(t, anyChain(&row, n)); got != n || e != api.OK {
			t.Errorf("%d right headers: %d, %d", n, got, e)
		}
	}
	long := anyChain(&row, 2000)
	if got, e := checkChain(t, long); got != 2000 || e != api.OK || long[1999].Tail != 4 {
		t.Errorf("2000 right headers: %d, %d", got, e)
	}
}

// P19.9: at each place each error; the first place is told, whatever is wrong behind it.
func TestChainPlaces(t *testing.T) {
	row := chance.Row(1951)
	all := anyChain(&row, 30)
	last := len(all) - 1
	for i := range all {
		for _, c := range []struct {
			e   api.Errno
			put func(*api.Header)
		}{
			{api.ErrHdField, func(h *api.Header) { h.Tail = 5 }},
			{api.ErrHdField, func(h *api.Header) { h.Tail = -1 }},
			{api.ErrHdExtra, func(h *api.Header) { h.Extra = make([]byte, 33) }},
			{api.ErrHdParent, func(h *api.Header) { h.Number++ }},
			{api.ErrHdTime, func(h *api.Header) { h.Time = 0 }},
			{api.ErrHdGas, func(h *api.Header) { h.Used = h.Limit + 1 }},
		} {
			wrong := append([]api.Header(nil), all...)
			c.put(&wrong[i])
			place, want := i, c.e
			if i == 0 && want != api.ErrHdField && want != api.ErrHdExtra { // the first one follows nothing: the second is no child of what it is now
				place, want = 1, api.ErrHdParent
			}
			if n, e := checkChain(t, wrong); n != place || e != want {
				t.Errorf("wrong at %d: %d, %d, want %d, %d", i, n, e, place, want)
			}
			wrong[last].Extra = make([]byte, 40)
			if n, e := checkChain(t, wrong); i < last && (n != place || e != want) {
				t.Errorf("wrong at %d and at the end: %d, %d, want %d, %d", i, n, e, place, want)
			}
		}
		other := append([]api.Header(nil), all...)
		other[i].Mix[3] ^= 1 // right itself, but not the one that its child names
		place, want := i+1, api.ErrHdParent
		if i == last {
			want = api.OK
		}
		if n, e := checkChain(t, other); n != place || e != want {
			t.Errorf("another header at %d: %d, %d", i, n, e)
		}
		if n, e := checkChain(t, append(append([]api.Header(nil), all[:i]...), all[min(i+1, last):]...)); i > 0 && i < last && (n != i || e != api.ErrHdParent) {
			t.Errorf("without the one at %d: %d, %d", i, n, e)
		}
		if n, e := checkChain(t, append(append([]api.Header(nil), all[:i+1]...), all[i:]...)); n != i+1 || e != api.ErrHdParent {
			t.Errorf("the one at %d twice: %d, %d", i, n, e)
		}
		if n, e := checkChain(t, all[i:]); n != len(all)-i || e != api.OK {
			t.Errorf("from %d on: %d, %d", i, n, e)
		}
	}
}

// P19.9: any headers.
func TestChainByChance(t *testing.T) {
	row := chance.Row(1952)
	for range 2000 {
		all := anyChain(&row, 1+row.Below(8))
		for range row.Below(3) {
			h := &all[row.Below(len(all))]
			switch row.Below(6) {
			case 0:
				*h = anyHeader(&row, row.Below(tails))
			case 1:
				h.Tail += row.Below(3) - 1
			case 2:
				h.Time = anySmall(&row)
			case 3:
				h.Limit = anySmall(&row)
			case 4:
				h.BaseFee = anyNumber(&row)
			case 5:
				*h = all[row.Below(len(all))]
			}
		}
		checkChain(t, all)
	}
}
