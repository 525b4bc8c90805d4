package address_test

import (
	"bytes"
	"runtime"
	"slices"
	"testing"

	"waybill/address"
	"waybill/api"
	"waybill/chance"
)

func checkCreate(t *testing.T, sender api.Address, nonce uint64) {
	t.Helper()
	if got, want := address.Create(sender, nonce), modelCreate(sender, nonce); got != want {
		t.Errorf("Create(%x, %d) = %x, want %x", sender, nonce, got, want)
	}
}

func checkCreate2(t *testing.T, maker api.Address, salt api.Hash, code []byte) {
	t.Helper()
	if got, want := address.Create2(maker, salt, code), modelCreate2(maker, salt, code); got != want {
		t.Errorf("Create2(%x, %x, %d bytes) = %x, want %x", maker, salt, len(code), got, want)
	}
}

// checkRow holds Row against its model (P9.5, P0.2) and tells its error.
func checkRow(t *testing.T, sender api.Address, from uint64, count int) api.Errno {
	t.Helper()
	want, wantE := modelRow(sender, from, count)
	if got, e := address.Row(sender, from, count); !slices.Equal(got, want) || e != wantE {
		t.Errorf("Row(%x, %d, %d) = %d addresses, %d, want %d, %d, or one is another", sender, from, count, len(got), e, len(want), wantE)
	}
	return wantE
}

// filled tells a list of one byte throughout.
func filled(b byte, n int) []byte { return bytes.Repeat([]byte{b}, n) }

// P9.3: the chapter's second example.
func TestExamplesOfCreate(t *testing.T) {
	for nonce, want := range map[uint64]string{
		0:    "bd770416a3345f91e4b34576cb804a576fa48eb1",
		1:    "5a443704dd4b594b382c22a083e2bd3090a6fef3",
		127:  "5a1bfc20f2037f3e54d367a70957a5327130cea5",
		128:  "c1784bd8a0ffebd60d0bc7099dcd811b57f30bc4",
		most: "1262d73ea59d3a661bf8751d16cf1a5377149e75",
	} {
		if got := address.Create(nobody, nonce); got != called(want) {
			t.Errorf("Create of nonce %d = %x, want %s", nonce, got, want)
		}
	}
	if modelLast(slices.Concat([]byte{0xd6, 0x94}, filled(0, 20), []byte{0x80})) != address.Create(nobody, 0) {
		t.Error("Create with the nonce 0 is not by the bytes that the example names")
	}
	if modelLast(slices.Concat([]byte{0xd7, 0x94}, filled(0, 20), []byte{0x81, 0x80})) != address.Create(nobody, 128) {
		t.Error("Create with the nonce 128 is not by the bytes that the example names")
	}
}

// P9.3: contracts that other programs' tests know.
func TestKnownCreate(t *testing.T) {
	for sender, row := range map[string][]string{
		"970e8128ab834e8eac17ab8e3812f010678cf791": {"333c3310824b7c685133f2bedb2ca4b8b4df633d", "8bda78331c916a08481428e4b07c96d3e916d165", "c9ddedf451bc62ce88bf9292afb13df35b670699"},
		"6ac7ea33f8831ea9dcc53393aaa88b25a785dbf0": {"cd234a471b72ba2f1ccf0a70fcaba648a5eecd8d", "343c43a37d37dff08ae8c4a11544c718abb4fcf8", "f778b86fa74e846c4f0a1fbd1335fe81c00a0c91", "fffd933a0bc612844eaf0c6fe3e5b8e9b6c1d19c"},
	} {
		for nonce, want := range row {
			if got := address.Create(called(sender), uint64(nonce)); got != called(want) {
				t.Errorf("Create(%s, %d) = %x, want %s", sender, nonce, got, want)
			}
		}
	}
}

// P9.3: nonces of all lengths, those at their ends among them; a sender with zeros ahead keeps them.
func TestCreate(t *testing.T) {
	row := chance.Row(11)
	for _, nonce := range nonces() {
		checkCreate(t, nobody, nonce)
		checkCreate(t, anyAddress(&row), nonce)
	}
	for range 300 {
		checkCreate(t, anyAddress(&row), row.Next()>>row.Below(64))
	}
	for i := range 20 {
		for _, b := range []byte{1, 0x7f, 0x80, 0xff} {
			var sender api.Address
			sender[i] = b
			checkCreate(t, sender, uint64(i))
		}
	}
}

// P9.4: the chapter's third example.
func TestExamplesOfCreate2(t *testing.T) {
	for _, nothing := range [][]byte{nil, {}} {
		if got := address.Create2(nobody, api.Hash{}, nothing); got != called("e33c0c7f7df4809055c3eba6c09cfe4baf1bd9e0") {
			t.Errorf("Create2 of zeros and nothing = %x", got)
		}
	}
	one, _ := address.OfKey(api.U256{1})
	if got := address.Create2(one, api.Hash(filled(0xff, 32)), []byte{0}); got != called("0809d11b66b0e01070f9710dde43af29e2b47e53") {
		t.Errorf("Create2 of OfKey(1) = %x", got)
	}
}

// P9.4: the examples of EIP-1014.
func TestKnownCreate2(t *testing.T) {
	none, zeros := "0000000000000000000000000000000000000000", "0000000000000000000000000000000000000000000000000000000000000000"
	cafe := "00000000000000000000000000000000000000000000000000000000cafebabe"
	for _, c := range []struct{ maker, salt, code, want string }{
		{none, zeros, "00", "4d1a2e2bb4f88f0250f26ffff098b0b30b26bf38"},
		{"deadbeef00000000000000000000000000000000", zeros, "00", "b928f69bb1d91cd65274e3c79d8986362984fda3"},
		{"deadbeef00000000000000000000000000000000", "000000000000000000000000feed000000000000000000000000000000000000", "00", "d04116cdd17bebe565eb2422f2497e06cc1c9833"},
		{none, zeros, "deadbeef", "70f2b2914a2a4b783faefb75f459a580616fcb5e"},
		{"00000000000000000000000000000000deadbeef", cafe, "deadbeef", "60f3f640a8508fc6a86d45df051962668e1e8ac7"},
		{"00000000000000000000000000000000deadbeef", cafe, "deadbeefdeadbeefdeadbeefdeadbeefdeadbeefdeadbeefdeadbeefdeadbeefdeadbeefdeadbeefdeadbeef", "1d8bfdc5d46dc4f61d6b6115972536ebe6a8854c"},
		{none, zeros, "", "e33c0c7f7df4809055c3eba6c09cfe4baf1bd9e0"},
	} {
		if got := address.Create2(called(c.maker), api.Hash(unhex(c.salt)), unhex(c.code)); got != called(c.want) {
			t.Errorf("Create2(%s, %s, %s) = %x, want %s", c.maker, c.salt, c.code, got, c.want)
		}
	}
}

// P9.4, P0.7: code of any length, longer than MaxInput too.
func TestCreate2(t *testing.T) {
	row := chance.Row(12)
	for n := range 300 {
		checkCreate2(t, anyAddress(&row), anyHash(&row), row.Text(n))
	}
	for _, n := range []int{api.MaxInput - 1, api.MaxInput, api.MaxInput + 1} {
		checkCreate2(t, anyAddress(&row), anyHash(&row), filled(0x5b, n))
	}
	maker, salt, code := anyAddress(&row), anyHash(&row), row.Text(40)
	seen := map[api.Address]int{address.Create2(maker, salt, code): -1}
	for i := range 8 * (20 + 32 + 40) { // each bit counts
		m, s, c := maker, salt, bytes.Clone(code)
		switch at := i / 8; {
		case at < 20:
			m[at] ^= 1 << (i % 8)
		case at < 52:
			s[at-20] ^= 1 << (i % 8)
		default:
			c[at-52] ^= 1 << (i % 8)
		}
		checkCreate2(t, m, s, c)
		a := address.Create2(m, s, c)
		if other, ok := seen[a]; ok {
			t.Errorf("the bits %d and %d turned: one address", i, other)
		}
		seen[a] = i
	}
}

// P9.5: the chapter's fourth example.
func TestExamplesOfRow(t *testing.T) {
	want := []api.Address{called("bd770416a3345f91e4b34576cb804a576fa48eb1"), called("5a443704dd4b594b382c22a083e2bd3090a6fef3")}
	if got, e := address.Row(nobody, 0, 2); !slices.Equal(got, want) || e != api.OK {
		t.Errorf("Row of 2 = %x, %d", got, e)
	}
	if got, e := address.Row(nobody, 5, 0); len(got) != 0 || e != api.OK {
		t.Errorf("Row of none = %x, %d", got, e)
	}
	if got, e := address.Row(nobody, most, 1); !slices.Equal(got, []api.Address{called("1262d73ea59d3a661bf8751d16cf1a5377149e75")}) || e != api.OK {
		t.Errorf("Row of the last nonce = %x, %d", got, e)
	}
	for _, c := range []struct {
		from  uint64
		count int
	}{{most, 2}, {0, -1}, {0, 4097}} {
		if got, e := address.Row(nobody, c.from, c.count); got != nil || e != api.ErrArg {
			t.Errorf("Row from %d, %d addresses: %x, %d", c.from, c.count, got, e)
		}
	}
}

// P9.5: rows of all lengths that a batch may end at, and the counts at both ends and far beyond.
func TestRow(t *testing.T) {
	row := chance.Row(13)
	for count := range 300 {
		checkRow(t, anyAddress(&row), row.Next()>>row.Below(64)/2, count)
	}
	for _, count := range []int{511, 512, 513, 1000, 1023, 1024, 1025, 4032, 4033, 4095, 4096} {
		if e := checkRow(t, anyAddress(&row), uint64(count), count); e != api.OK {
			t.Errorf("the model of Row of %d: %d", count, e)
		}
	}
	for _, count := range []int{4097, 4098, 8192, 65536, 1 << 32, 1<<32 + 1, 1<<63 - 1, -1, -2, -4096, -1 << 32, -1 << 63, -1<<63 + 1} {
		for _, from := range []uint64{0, 1, 4096, 1 << 63, most - 1, most} {
			if e := checkRow(t, nobody, from, count); e != api.ErrArg {
				t.Errorf("the model of Row of %d: %d", count, e)
			}
		}
	}
}

// P9.5: rows that end with the last nonce, ahead of it or beyond it.
func TestRowEnds(t *testing.T) {
	counts := map[api.Errno]int{}
	for left := range 140 { // so many nonces and one more
		for _, count := range []int{0, 1, 2, left - 1, left, left + 1, left + 2, left + 3, left + 64, 140} {
			counts[checkRow(t, nobody, most-uint64(left), count)]++
		}
	}
	for _, left := range []uint64{4094, 4095, 4096} {
		for _, count := range []int{4094, 4095, 4096, 4097} {
			counts[checkRow(t, nobody, most-left, count)]++
		}
	}
	if counts[api.OK] < 500 || counts[api.ErrArg] < 300 {
		t.Errorf("an answer hardly ever comes: %v", counts)
	}
	if e := checkRow(t, nobody, most, 0); e != api.OK {
		t.Errorf("no address from the last nonce on: %d", e)
	}
}

// P9.5, P0.6: the same however the goroutines run, one processor or many, and when many ask at one time.
func TestRowAnyOrder(t *testing.T) {
	row := chance.Row(14)
	sender, from := anyAddress(&row), row.Next()/2
	want, _ := modelRow(sender, from, 1000)
	before := runtime.GOMAXPROCS(0)
	defer runtime.GOMAXPROCS(before)
	for _, processors := range []int{1, 2, before} {
		runtime.GOMAXPROCS(processors)
		done := make(chan bool)
		for i := range 8 {
			go func() {
				got, e := address.Row(sender, from+uint64(i), 1000-i)
				done <- slices.Equal(got, want[i:]) && e == api.OK
			}()
		}
		for range 8 {
			if !<-done {
				t.Errorf("another row with %d processors", processors)
			}
		}
	}
}
