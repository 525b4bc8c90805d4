package curve_test

import (
	"bytes"
	"math/big"
	"slices"
	"testing"

	"waybill/api"
	"waybill/chance"
	"waybill/curve"
)

const (
	baseX = "79be667ef9dcbbac55a06295ce870b07029bfcdb2dce28d959f2815b16f81798"
	baseY = "483ada7726a3c4655da4fbfc0e1108a8fd17b448a68554199c47d08ffb10d4b8"
)

// word tells the 32 bytes of a number, by math/big.
func word(x api.U256) []byte { return wide(x).FillBytes(make([]byte, 32)) }

// short and full are the two forms as the chapter has them.

func short(p api.Point) []byte { return append([]byte{2 + byte(p.Y[0]&1)}, word(p.X)...) }

func full(p api.Point) []byte { return slices.Concat([]byte{4}, word(p.X), word(p.Y)) }

// P5.6, P5.8: the bytes of points, and back.
func TestBytes(t *testing.T) {
	row := chance.Row(21)
	all := points()
	for range 300 {
		all = append(all, anyPoint(&row))
	}
	for _, p := range all {
		if p.Identity {
			continue
		}
		if got, e := curve.Compress(p); !bytes.Equal(got, short(p)) || e != api.OK {
			t.Errorf("Compress(%v) = %x, %d", p, got, e)
		}
		if got, e := curve.Expand(p); !bytes.Equal(got, full(p)) || e != api.OK {
			t.Errorf("Expand(%v) = %x, %d", p, got, e)
		}
		for _, data := range [][]byte{short(p), full(p)} {
			if got, e := curve.Parse(data); got != p || e != api.OK {
				t.Errorf("Parse(%x) = %v, %d", data, got, e)
			}
		}
	}
}

// P5.6: the identity has no bytes, and what stands for no point is told first.
func TestBytesOfIdentity(t *testing.T) {
	for _, f := range []func(api.Point) ([]byte, api.Errno){curve.Compress, curve.Expand} {
		if got, e := f(identity); got != nil || e != api.ErrCurveForm {
			t.Errorf("of the identity: %x, %d", got, e)
		}
		if got, e := f(api.Point{Y: one, Identity: true}); got != nil || e != api.ErrCurvePoint {
			t.Errorf("of an identity with a y: %x, %d", got, e)
		}
	}
}

// modelParse follows P5.7 word for word.
func modelParse(data []byte) (api.Point, api.Errno) {
	isShort := len(data) == 33 && (data[0] == 2 || data[0] == 3)
	isFull := len(data) == 65 && data[0] == 4
	if !isShort && !isFull {
		return noPoint, api.ErrCurveForm
	}
	x := new(big.Int).SetBytes(data[1:33])
	y := new(big.Int).SetBytes(data[33:])
	if x.Cmp(prime()) >= 0 || y.Cmp(prime()) >= 0 {
		return noPoint, api.ErrCurveForm
	}
	p, ok := modelLift(narrow(x), data[0] == 3)
	if isFull {
		p = api.Point{X: narrow(x), Y: narrow(y)}
		ok = modelOn(p)
	}
	if !ok {
		return noPoint, api.ErrCurvePoint
	}
	return p, api.OK
}

func checkParse(t *testing.T, data []byte) api.Errno {
	t.Helper()
	want, wantE := modelParse(data)
	got, e := curve.Parse(data)
	if got != want || e != wantE {
		t.Fatalf("Parse(%x) = %v, %d, want %v, %d", data, got, e, want, wantE)
	}
	return e
}

// P5.7: lengths and first bytes: all of them, with a right point behind.
func TestParseForm(t *testing.T) {
	checkParse(t, nil)
	checkParse(t, []byte{})
	zeros := make([]byte, 200)
	for _, p := range []api.Point{base, modelNeg(base)} {
		whole := slices.Concat(full(p), full(p), full(p))
		for n := range whole {
			for first := range 8 {
				whole[0], zeros[0] = byte(first), byte(first)
				checkParse(t, whole[:n])
				checkParse(t, zeros[:n])
			}
		}
		for first := range 256 {
			whole[0] = byte(first)
			checkParse(t, whole[:33])
			checkParse(t, whole[:65])
		}
	}
	if _, e := curve.Parse(make([]byte, api.MaxInput+1)); e != api.ErrCurveForm {
		t.Errorf("Parse of a long text: %d", e)
	}
}

// P5.7: x and y about p, alone and together; the form is told ahead of the point.
func TestParseNumbers(t *testing.T) {
	low, _ := modelLift(one, false)
	small := lowY()
	all := []api.U256{zero, one, num(5), base.X, base.Y, low.Y, small.X, small.Y, near(prime(), int64(small.Y[0])), near(prime(), -1), narrow(prime()), near(prime(), 1), near(prime(), 5), top}
	for v := int64(1); v < 60; v++ {
		all = append(all, near(prime(), -v))
	}
	for _, x := range all {
		checkParse(t, append([]byte{2}, word(x)...))
		checkParse(t, append([]byte{3}, word(x)...))
		for _, y := range all {
			checkParse(t, slices.Concat([]byte{4}, word(x), word(y)))
		}
	}
}

// P5.7: 65 bytes whose y is another's, its opposite's, or wrong in one bit.
func TestParsePairs(t *testing.T) {
	all := points()
	for _, p := range all {
		for _, q := range all {
			checkParse(t, full(api.Point{X: p.X, Y: q.Y}))
		}
	}
	for i := range 520 {
		data := full(base)
		data[i/8] ^= 1 << (i % 8)
		if checkParse(t, data) == api.OK {
			t.Errorf("Parse with the bit %d changed: OK", i)
		}
	}
}

// P5.8: where Parse goes well, the bytes of its answer are the data.
func TestThereAndBack(t *testing.T) {
	row := chance.Row(22)
	counts := map[api.Errno]int{}
	for range 1500 {
		data := append([]byte{byte(2 + row.Below(3))}, word(row.Number())...)
		if data[0] == 4 {
			p, _ := modelLift(narrow(new(big.Int).SetBytes(data[1:])), row.Below(2) == 0)
			data = append(data, word(p.Y)...)
		}
		p, e := curve.Parse(data)
		counts[e]++
		if e != api.OK {
			continue
		}
		back, e := curve.Compress(p)
		if data[0] == 4 {
			back, e = curve.Expand(p)
		}
		if !bytes.Equal(back, data) || e != api.OK {
			t.Errorf("%x becomes %x, %d", data, back, e)
		}
	}
	if counts[api.OK] < 300 || counts[api.ErrCurvePoint] < 300 {
		t.Errorf("one-sided: %v", counts)
	}
}

// P5.10, P0.3: the texts that are answered are new, those that are handed in stay as they are, their room too.
func TestSharesNothing(t *testing.T) {
	row := chance.Row(23)
	p := base
	for _, f := range []func(api.Point) ([]byte, api.Errno){curve.Compress, curve.Expand} {
		first, _ := f(p)
		want := bytes.Clone(first)
		room := first[:cap(first)]
		for i := range room {
			room[i] = 0xEE
		}
		if second, _ := f(p); !bytes.Equal(second, want) {
			t.Errorf("the second text is %x", second)
		}
	}
	for _, n := range []int{0, 1, 33, 65} {
		data, whole := row.Roomy(n)
		copy(data, full(base))
		if n == 33 {
			copy(data, short(base))
		}
		before := bytes.Clone(whole)
		got, _ := curve.Parse(data)
		if !bytes.Equal(whole, before) {
			t.Errorf("Parse has written into %d bytes", n)
		}
		clear(whole)
		if n > 1 && got != base {
			t.Errorf("the point of %d bytes has changed: %v", n, got)
		}
	}
}

// The chapter's example 5.
func TestExamplesOfBytes(t *testing.T) {
	g := curve.G()
	minus, _ := curve.Neg(g)
	if b, e := curve.Compress(g); !bytes.Equal(b, unhex("02"+baseX)) || e != api.OK {
		t.Errorf("Compress(G) = %x, %d", b, e)
	}
	if b, e := curve.Compress(minus); !bytes.Equal(b, unhex("03"+baseX)) || e != api.OK {
		t.Errorf("Compress(Neg(G)) = %x, %d", b, e)
	}
	if b, e := curve.Expand(g); !bytes.Equal(b, unhex("04"+baseX+baseY)) || e != api.OK {
		t.Errorf("Expand(G) = %x, %d", b, e)
	}
	for i, c := range []struct {
		data []byte
		e    api.Errno
	}{
		{append([]byte{2}, word(num(5))...), api.ErrCurvePoint},
		{append([]byte{2}, word(top)...), api.ErrCurveForm},
		{nil, api.ErrCurveForm},
		{[]byte{0}, api.ErrCurveForm},
		{unhex("04" + baseX), api.ErrCurveForm},
		{unhex("05" + baseX + baseY), api.ErrCurveForm},
	} {
		if p, e := curve.Parse(c.data); p != noPoint || e != c.e {
			t.Errorf("row %d: Parse = %v, %d", i, p, e)
		}
	}
}
