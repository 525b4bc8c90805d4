package sha_test

import (
	"bytes"
	"crypto/hmac"
	"crypto/sha256"
	"testing"

	"waybill/api"
	"waybill/chance"
	"waybill/sha"
)

const emptyDigest = "e3b0c44298fc1c149afbf4c8996fb92427ae41e4649b934ca495991b7852b855"

// P3.1: the chapter's examples, and one of the standard's own.
func TestSumExamples(t *testing.T) {
	for _, c := range []struct {
		text []byte
		want string
	}{
		{nil, emptyDigest},
		{[]byte{}, emptyDigest},
		{[]byte("a"), "ca978112ca1bbdcafac231b39a23dc4da786eff8147c4e72b9807785afee48bb"},
		{[]byte("abc"), "ba7816bf8f01cfea414140de5dae2223b00361a396177a9cb410ff61f20015ad"},
		{[]byte("abcdbcdecdefdefgefghfghighijhijkijkljklmklmnlmnomnopnopq"), "248d6a61d20638b8e5c026930c3e6039a33ce45964ff2167f6ecedd419db06c1"},
		{counting(55), "463eb28e72f82e0a96c0a4cc53690c571281131f672aa229e0d45ae59b598b59"},
		{counting(56), "da2ae4d6b36748f2a318f23e7ab1dfdf45acdc9d049bd80e59de82a60895f562"},
		{counting(64), "fdeab9acf3710362bd2658cdc9a29e8f9c757fcf9811603a8c447cd1d9151108"},
		{counting(65), "4bfd2c8b6f1eec7a2afeb48b934ee4b2694182027e6d0fc075074f2fabb31781"},
	} {
		if got := sha.Sum(c.text); digits(got) != c.want {
			t.Errorf("Sum(%x) = %x, want %s", c.text, got, c.want)
		}
	}
}

// P3.1: every length around the first blocks' ends, of bytes 0, of bytes ff, and of others.
func TestSumLengths(t *testing.T) {
	row := chance.Row(6)
	for n := range 6*block + 2 {
		for _, text := range [][]byte{make([]byte, n), bytes.Repeat([]byte{0xff}, n), row.Text(n)} {
			if sha.Sum(text) != api.Hash(sha256.Sum256(text)) {
				t.Fatalf("Sum of %d bytes: %x", n, text)
			}
		}
	}
}

// P3.1, P0.7: no limit to the length, MaxInput neither.
func TestSumLong(t *testing.T) {
	row := chance.Row(7)
	for _, n := range []int{1000 * block, 1000*block + 55, api.MaxInput, api.MaxInput + 1} {
		text := bytes.Repeat(row.Text(251), n/251+1)[:n]
		if sha.Sum(text) != api.Hash(sha256.Sum256(text)) {
			t.Errorf("Sum of %d bytes", n)
		}
	}
}

// P3.1, P0.4: no parts and parts without bytes are the text without bytes.
func TestSumOfNothing(t *testing.T) {
	for _, parts := range [][][]byte{nil, {}, {nil}, {{}}, {nil, {}, nil}, make([][]byte, 300)} {
		if got := sha.Sum(parts...); digits(got) != emptyDigest {
			t.Errorf("Sum of %d parts without bytes = %x", len(parts), got)
		}
	}
	if digits(sha.Sum()) != emptyDigest {
		t.Error("no parts")
	}
}

// P3.1: all cuts into two parts, and cuts into many.
func TestSumParts(t *testing.T) {
	row := chance.Row(8)
	for _, n := range []int{1, 3, 55, 56, block - 1, block, block + 1, 2 * block, 2*block + 1} {
		text := row.Text(n)
		whole := api.Hash(sha256.Sum256(text))
		for cut := range n + 1 {
			if sha.Sum(text[:cut], text[cut:]) != whole || sha.Sum(nil, text[:cut], nil, text[cut:], nil) != whole {
				t.Fatalf("%d bytes cut at %d", n, cut)
			}
		}
		var single [][]byte
		for i := range text {
			single = append(single, text[i:i+1], nil)
		}
		if sha.Sum(single...) != whole {
			t.Fatalf("%d bytes one by one", n)
		}
	}
	for range 300 {
		text := row.Text(row.Below(1000))
		if sha.Sum(row.Parts(text)...) != api.Hash(sha256.Sum256(text)) {
			t.Fatalf("%d bytes in parts", len(text))
		}
	}
	if sha.Sum([]byte("b"), []byte("a")) == sha.Sum([]byte("ab")) {
		t.Error("parts are put one behind the other, in their order")
	}
}

// modelCode: another's HMAC.
func modelCode(key, text []byte) api.Hash {
	h := hmac.New(sha256.New, key)
	h.Write(text)
	return api.Hash(h.Sum(nil))
}

// P3.5: the chapter's examples.
func TestHMACExamples(t *testing.T) {
	for _, c := range []struct {
		key        []byte
		text, want string
	}{
		{nil, "", "b613679a0814d9ec772f95d778c35fc5ff1697c493715653c6c712144292c5ad"},
		{[]byte{}, "", "b613679a0814d9ec772f95d778c35fc5ff1697c493715653c6c712144292c5ad"},
		{[]byte("key"), "The valise", "7f3d2830fb6556bbeb75ea4696939087b80215ad3d0c1e8346503495a506551e"},
		{counting(64), "x", "b8dc75d4220cfd86a5bf7c4301b3698f142a66fd7c004627df558626edb480cd"},
		{counting(65), "x", "839c2a8225cd27fb5d7ed3f6dc9a67cc7210572d15a39a276bf53b59d64033f0"},
	} {
		if got := sha.HMAC(c.key, []byte(c.text)); digits(got) != c.want {
			t.Errorf("HMAC(%x, %q) = %x, want %s", c.key, c.text, got, c.want)
		}
	}
	if digits(sha.HMAC(nil)) != "b613679a0814d9ec772f95d778c35fc5ff1697c493715653c6c712144292c5ad" {
		t.Error("HMAC of no parts")
	}
}

// P3.5: keys of all lengths around a block's, and texts around it.
func TestHMAC(t *testing.T) {
	row := chance.Row(9)
	for n := range 3 * block {
		key := row.Text(n)
		for _, length := range []int{0, 1, 32, 55, 56, 63, 64, 65, row.Below(500)} {
			text := row.Text(length)
			if got, want := sha.HMAC(key, text), modelCode(key, text); got != want {
				t.Fatalf("HMAC of %d bytes under %d: %x, want %x", length, n, got, want)
			}
		}
	}
	long := bytes.Repeat([]byte{7}, api.MaxInput+1)
	if sha.HMAC(long, long) != modelCode(long, long) {
		t.Error("more than MaxInput bytes")
	}
}

// P3.5: the chapter's rule by Sum alone: a key longer than a block is its digest, a shorter one has zeros behind it.
func TestHMACKeys(t *testing.T) {
	row := chance.Row(10)
	for _, n := range []int{0, 1, 31, 32, 33, 63, 64, 65, 200} {
		key, text := row.Text(n), row.Text(40)
		short := bytes.Clone(key)
		if n > block {
			d := sha.Sum(key)
			short = d[:]
		}
		full := append(short, make([]byte, block-len(short))...)
		inner, outer := bytes.Clone(full), bytes.Clone(full)
		for i := range full {
			inner[i] ^= 0x36
			outer[i] ^= 0x5c
		}
		d := sha.Sum(inner, text)
		if got := sha.HMAC(key, text); got != sha.Sum(outer, d[:]) || got != sha.HMAC(full, text) || got != sha.HMAC(short, text) {
			t.Errorf("a key of %d bytes", n)
		}
	}
}

// P3.5: how the text is cut counts for nothing; what is the key's and what the text's does.
func TestHMACParts(t *testing.T) {
	row := chance.Row(11)
	for range 200 {
		key, text := row.Text(row.Below(100)), row.Text(row.Below(1000))
		if sha.HMAC(key, row.Parts(text)...) != modelCode(key, text) {
			t.Fatalf("%d bytes in parts under %d", len(text), len(key))
		}
	}
	none := sha.HMAC([]byte("k"))
	for _, parts := range [][][]byte{{nil}, {{}}, {nil, {}}} {
		if sha.HMAC([]byte("k"), parts...) != none {
			t.Error("parts without bytes")
		}
	}
	if sha.HMAC([]byte("ab"), []byte("c")) == sha.HMAC([]byte("a"), []byte("bc")) {
		t.Error("a key's end is a part's beginning")
	}
}
