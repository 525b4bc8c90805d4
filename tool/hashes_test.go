package tool_test

import (
	"strings"
	"testing"

	"waybill/chance"
)

// P26.3: digests that are known from elsewhere; of parts it is that of the whole.
func TestHashes(t *testing.T) {
	abc := "0x4e03657aea45a94fc7d47ba826c8d667c0d1e6e33a64a036ec44f58fa12d6c45"
	sha3 := "0x3a985da74fe225b2045c172d6bd390bd855f086e3e9d525b46bfe24511431532"
	sha := "0xba7816bf8f01cfea414140de5dae2223b00361a396177a9cb410ff61f20015ad"
	wantTold(t,
		"keccak", "ok "+nothing,
		"keccak 0x", "ok "+nothing,
		"keccak 0x 0x 0x", "ok "+nothing,
		"keccak 0x616263", "ok "+abc,
		"keccak 0x61 0x 0x62 0x63", "ok "+abc,
		"sha3", "ok 0xa7ffc6f8bf1ed76651c14756a061d662f580ff4de43b49fa82d80a4b80f8434a",
		"sha3 0x616263", "ok "+sha3,
		"sha3 0x6162 0x63", "ok "+sha3,
		"sha", "ok 0xe3b0c44298fc1c149afbf4c8996fb92427ae41e4649b934ca495991b7852b855",
		"sha 0x616263", "ok "+sha,
		"sha 0x 0x616263 0x", "ok "+sha,
		// RFC 4231's second one, and that of nothing under nothing.
		"hmac 0x4a656665 0x7768617420646f2079612077616e7420666f72206e6f7468696e673f", "ok 0x5bdcc146bf60754e6a042426089575c75a003f089d2739839dec58b964ec3843",
		"hmac 0x4a656665 0x7768617420646f2079612077616e7420 0x666f72206e6f7468696e673f", "ok 0x5bdcc146bf60754e6a042426089575c75a003f089d2739839dec58b964ec3843",
		"hmac 0x", "ok 0xb613679a0814d9ec772f95d778c35fc5ff1697c493715653c6c712144292c5ad",
		"hmac 0x 0x", "ok 0xb613679a0814d9ec772f95d778c35fc5ff1697c493715653c6c712144292c5ad",
		"hmac", "error 260",
		"keccak 0xAB", answer(nil, "keccak 0xab"),
		"keccak 0x0", "error 260",
		"keccak 00", "error 260",
	)
}

// P26.3, P0.7: data of as many bytes as may be, and of one more.
func TestLongData(t *testing.T) {
	most := "0x" + strings.Repeat("00", maxInput)
	wantTold(t,
		"keccak "+most, newModel().line("keccak "+most),
		"sha "+most+" "+most, newModel().line("sha "+most+" "+most),
		"keccak "+most+"00", "error 260",
		"keccak "+most+"0", "error 260",
	)
}

// P26.3: numbers, at the edges of 256 bits.
func TestCalc(t *testing.T) {
	half := "57896044618658097711785492504343953926634992332820282019728792003956564819968" // 2^255
	wantTold(t,
		"calc add 1 2", "ok 3",
		"calc add 0 0", "ok 0",
		"calc add "+widest+" 1", "ok 0",
		"calc add "+widest+" "+widest, "ok "+widest[:len(widest)-1]+"4",
		"calc sub 2 1", "ok 1",
		"calc sub 1 1", "ok 0",
		"calc sub 1 2", "ok "+widest,
		"calc sub 0 "+widest, "ok 1",
		"calc mul 6 7", "ok 42",
		"calc mul "+widest+" "+widest, "ok 1",
		"calc mul "+half+" 2", "ok 0",
		"calc mul 0 "+widest, "ok 0",
		"calc div 7 2", "ok 3",
		"calc div 1 2", "ok 0",
		"calc div "+widest+" "+widest, "ok 1",
		"calc div "+widest+" 1", "ok "+widest,
		"calc div 0 7", "ok 0",
		"calc mod 7 2", "ok 1",
		"calc mod 2 7", "ok 2",
		"calc mod "+widest+" 10", "ok 5",
		"calc div 1 0", "error 10",
		"calc div 0 0", "error 10",
		"calc mod 1 0", "error 10",
		"calc mod 0 0", "error 10",
		"calc add 1 0", "ok 1",
		"calc exp 2 10", "ok 1024",
		"calc exp 0 0", "ok 1",
		"calc exp 10 0", "ok 1",
		"calc exp 0 10", "ok 0",
		"calc exp 2 255", "ok "+half,
		"calc exp 2 256", "ok 0",
		"calc exp "+widest+" "+widest, "ok "+widest,
	)
	for _, word := range []string{"xor", "Add", "ADD", "a", "addd", "ad", "+", "root", "powmod", "cmp", "0"} {
		for _, numbers := range []string{"1 2", "1 0", "0 0"} {
			wantRun(t, "calc "+word+" "+numbers, "error 260\n")
		}
	}
	for _, line := range []string{"calc", "calc add", "calc add 1", "calc add 1 2 3", "calc add -1 2", "calc add 1 -2", "calc add 01 2", "calc add 1 0x2", "calc 1 add 2", "calc 1 2 add", "calc div 1 " + wide, "calc div " + wide + " 0"} {
		wantRun(t, line, "error 260\n")
	}
}

// P26.3: against the model, of numbers at their edges.
func TestCalcModel(t *testing.T) {
	row := chance.Row(2610)
	var lines []string
	for range 1500 {
		word := strings.Fields("add sub mul div mod exp xor")[row.Below(7)]
		lines = append(lines, "calc "+word+" "+sum(row.Number())+" "+sum(row.Number()))
	}
	wantAnswers(t, lines, newModel().run(lines))
}
