package keccak_test

import (
	"bytes"
	"crypto/sha3"
	"runtime"
	"testing"

	"waybill/api"
	"waybill/chance"
	"waybill/keccak"
)

// P2.2: the chapter's examples, and those that need no table.
func TestSumExamples(t *testing.T) {
	for _, c := range []struct {
		text   []byte
		digest string
	}{
		{nil, "c5d2460186f7233c927e7db2dcc703c0e500b653ca82273b7bfad8045d85a470"},
		{[]byte{}, "c5d2460186f7233c927e7db2dcc703c0e500b653ca82273b7bfad8045d85a470"},
		{[]byte("abc"), "4e03657aea45a94fc7d47ba826c8d667c0d1e6e33a64a036ec44f58fa12d6c45"},
		{[]byte{0x80}, "56e81f171bcc55a6ff8345e692c0f86e5b48e01b996cadc001622fb5e363b421"},
		{[]byte{0xc0}, "1dcc4de8dec75d7aab85b567b6ccd41ad312451b948a7413f0a142fd40d49347"},
		{[]byte{0x00}, "bc36789e7a1e281436464229828f817d6612f7b477d66591ff96a9e064bcc98a"},
		{make([]byte, 135), "29e3704feeca7fb9ba229f0fa04d9b36449cf3ad6e1d85d9cfff3a10df9abc3e"},
		{make([]byte, 136), "3a5912a7c5faa06ee4fe906253e339467a9ce87d533c65be3c15cb231cdb25f9"},
		{make([]byte, 137), "bee7fbb405cb0d91a8775e338c4a5e4b5d6b2d051f687fa942043cffdc73bd28"},
	} {
		if got := keccak.Sum(c.text); got != hash(t, c.digest) {
			t.Errorf("Sum(%x) = %x, want %s", c.text, got, c.digest)
		}
	}
}

// P2.2: the chapter's examples of SHA3-256.
func TestSha3Examples(t *testing.T) {
	for _, c := range []struct {
		text   []byte
		digest string
	}{
		{nil, "a7ffc6f8bf1ed76651c14756a061d662f580ff4de43b49fa82d80a4b80f8434a"},
		{[]byte("abc"), "3a985da74fe225b2045c172d6bd390bd855f086e3e9d525b46bfe24511431532"},
		{make([]byte, 135), "7d080d7ba978a75c8a7d1f9be566c859084509c9c2b4928435c225d5777d98e3"},
		{make([]byte, 136), "e772c9cf9eb9c991cdfcf125001b454fdbc0a95f188d1b4c844aa032ad6e075e"},
	} {
		if got := keccak.Sha3(c.text); got != hash(t, c.digest) {
			t.Errorf("Sha3(%x) = %x, want %s", c.text, got, c.digest)
		}
	}
}

// P2.2: every length around the first blocks' ends, of bytes 0, of bytes ff, and of others.
func TestSumLengths(t *testing.T) {
	row := chance.Row(5)
	for n := range 4*block + 2 {
		for _, text := range [][]byte{make([]byte, n), bytes.Repeat([]byte{0xff}, n), row.Text(n)} {
			if keccak.Sum(text) != modelKeccak(text) {
				t.Fatalf("Sum of %d bytes: %x", n, text)
			}
			if keccak.Sha3(text) != api.Hash(sha3.Sum256(text)) {
				t.Fatalf("Sha3 of %d bytes: %x", n, text)
			}
		}
	}
}

// P2.2: no limit to the length, MaxInput neither.
func TestSumLong(t *testing.T) {
	row := chance.Row(6)
	for _, n := range []int{1000 * block, api.MaxInput, api.MaxInput + 1} {
		text := bytes.Repeat(row.Text(251), n/251+1)[:n]
		if keccak.Sha3(text) != api.Hash(sha3.Sum256(text)) {
			t.Errorf("Sha3 of %d bytes", n)
		}
	}
	text := row.Text(1000 * block)
	if keccak.Sum(text) != modelKeccak(text) {
		t.Error("Sum of 1000 blocks")
	}
	long := make([]byte, api.MaxInput+1)
	if keccak.Sum(long) == keccak.Sum(long[1:]) || keccak.Sum(long) == (api.Hash{}) {
		t.Error("Sum of more than MaxInput bytes")
	}
}

// P2.2, P0.4: no parts and parts without bytes are the empty text.
func TestSumOfNothing(t *testing.T) {
	empty := hash(t, "c5d2460186f7233c927e7db2dcc703c0e500b653ca82273b7bfad8045d85a470")
	other := hash(t, "a7ffc6f8bf1ed76651c14756a061d662f580ff4de43b49fa82d80a4b80f8434a")
	for _, parts := range [][][]byte{nil, {}, {nil}, {{}}, {nil, {}, nil}, make([][]byte, 300)} {
		if got := keccak.Sum(parts...); got != empty {
			t.Errorf("Sum of %d parts without bytes = %x", len(parts), got)
		}
		if got := keccak.Sha3(parts...); got != other {
			t.Errorf("Sha3 of %d parts without bytes = %x", len(parts), got)
		}
	}
	if keccak.Sum() != empty || keccak.Sha3() != other {
		t.Error("no parts")
	}
}

// P2.2: all cuts into two parts, and cuts into many.
func TestSumParts(t *testing.T) {
	row := chance.Row(7)
	for _, n := range []int{1, 3, block - 1, block, block + 1, 2 * block, 2*block + 1} {
		text := row.Text(n)
		whole, other := modelKeccak(text), api.Hash(sha3.Sum256(text))
		for cut := range n + 1 {
			if keccak.Sum(text[:cut], text[cut:]) != whole || keccak.Sha3(text[:cut], text[cut:]) != other {
				t.Fatalf("%d bytes cut at %d", n, cut)
			}
		}
		var single [][]byte
		for i := range text {
			single = append(single, text[i:i+1], nil)
		}
		if keccak.Sum(single...) != whole || keccak.Sha3(single...) != other {
			t.Fatalf("%d bytes one by one", n)
		}
	}
	for range 200 {
		text := row.Text(row.Below(1000))
		parts := row.Parts(text)
		if keccak.Sum(parts...) != keccak.Sum(text) || keccak.Sha3(parts...) != keccak.Sha3(text) {
			t.Fatalf("%d bytes in %d parts", len(text), len(parts))
		}
	}
	if keccak.Sum([]byte("a"), nil, []byte("bc")) != keccak.Sum([]byte("abc")) || keccak.Sum([]byte("b"), []byte("a")) == keccak.Sum([]byte("ab")) {
		t.Error("parts are put one behind the other, in their order")
	}
}

// P2.3, P0.17: one digest for each text, in the texts' order.
func TestMany(t *testing.T) {
	row := chance.Row(8)
	for _, n := range []int{0, 1, 2, 3, 7, 8, 9, 15, 16, 17, 31, 32, 33, 100, 1000} {
		texts := make([][]byte, n)
		for i := range texts {
			texts[i] = row.Text(row.Below(3 * block))
		}
		checkMany(t, texts)
	}
	checkMany(t, nil)
	checkMany(t, [][]byte{nil, {}, []byte("abc"), nil})
	same := []byte("the same list in several places")
	checkMany(t, [][]byte{same, same, same[:4], same})
}

func checkMany(t *testing.T, texts [][]byte) {
	t.Helper()
	got := keccak.Many(texts)
	if len(got) != len(texts) {
		t.Fatalf("%d texts have %d digests", len(texts), len(got))
	}
	for i, text := range texts {
		if got[i] != modelKeccak(text) {
			t.Fatalf("digest %d of %d is not that of %x", i, len(texts), text)
		}
	}
}

// P2.3, P0.6: the same however the goroutines run: long texts ahead of short ones, one processor or many.
func TestManyAnyOrder(t *testing.T) {
	row := chance.Row(9)
	var texts [][]byte
	for i := range 200 {
		texts = append(texts, row.Text((200-i)*(200-i)/4))
	}
	var want []api.Hash
	for _, text := range texts {
		want = append(want, keccak.Sum(text))
	}
	before := runtime.GOMAXPROCS(0)
	defer runtime.GOMAXPROCS(before)
	for _, processors := range []int{1, 2, before} {
		runtime.GOMAXPROCS(processors)
		for range 5 {
			got := keccak.Many(texts)
			for i := range want {
				if got[i] != want[i] {
					t.Fatalf("digest %d with %d processors", i, processors)
				}
			}
		}
	}
}

// P2.3, P0.3: two answers share no memory.
func TestManyAnswersApart(t *testing.T) {
	texts := [][]byte{[]byte("a"), []byte("b")}
	first := keccak.Many(texts)
	_ = append(first[:1], api.Hash{9})
	first[0] = api.Hash{1}
	second := keccak.Many(texts)
	if second[0] != modelKeccak(texts[0]) || second[1] != modelKeccak(texts[1]) {
		t.Error("who writes over an answer changes the next one")
	}
}
