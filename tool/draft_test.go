package tool_test

import (
	"slices"
	"strings"
	"testing"

	"waybill/api"
	"waybill/signing"
	"waybill/wire"
)

// EIP-155's own transaction, and the first one of mainnet, whose signature is not of this program's making; all written down from memory, and the hashes would show a slip.
const (
	eip155     = "0xf86c098504a817c800825208943535353535353535353535353535353535353535880de0b6b3a76400008025a028ef61340bd939bc2195fe537567866003e1a15d3c71ff63e1590620aa636276a067cbe9d8997f761aecb703304b3800ccf555c9f3dc64214b297fb1966a3b6d83"
	eip155Hash = "0x33469b22e9f636356c4160a87eb19df52b7412e8eac32a4a55ffe88ea8350788"
	eip155From = "0x9d8A62f656a8d1615C1294fd71e9CFb3E4855A4F"
	oldest     = "0xf86780862d79883d2000825208945df9b87991262f6ba471f09758cde1c0fc1de734827a69801ca088ff6cf0fefd94db46111149ae4bfc179e9b94721fffd821d38d16464b3f71d0a045e0aff800961cfce805daef7016b9b675c137a6a41a548f7b60a3484c06a33a"
	oldestHash = "0x5c504ed432cb51138bcf09aa5e8a410dd4a1e204ef84bfed1be16dfba1b22060"
	oldestFrom = "0xA1E4380A3B1f749673E270229993eE55F35663b4"
)

// P26.6: EIP-155's transaction is built, signed and told.
func TestBuild(t *testing.T) {
	wantTold(t,
		"new 0", "ok",
		"set chain 1", "ok",
		"set nonce 9", "ok",
		"set price 20000000000", "ok",
		"set gas 21000", "ok",
		"set to 0x"+strings.Repeat("35", 20), "ok",
		"set value 1000000000000000000", "ok",
		"signtx 0x"+strings.Repeat("46", 32), "ok "+eip155,
		"signtx 0x"+strings.Repeat("46", 32), "ok "+eip155, // what stands in V, R and S counts for nothing
		"signtx "+nought, "error 60",
		"signtx "+order, "error 60",
		"signtx 0x"+strings.Repeat("46", 32), "ok "+eip155,
		"tx "+eip155, "type 0\nchain 1\nnonce 9\ngas 21000\nvalue 1000000000000000000\nto 0x3535353535353535353535353535353535353535\ndata 0x\nhash "+eip155Hash+"\nsender "+eip155From+"\nok",
		"tx "+oldest, "type 0\nchain none\nnonce 0\ngas 21000\nvalue 31337\nto 0x5DF9B87991262F6BA471F09758CDE1c0FC1De734\ndata 0x\nhash "+oldestHash+"\nsender "+oldestFrom+"\nok",
	)
}

// P26.6: the types that there are.
func TestNew(t *testing.T) {
	wantTold(t, "new 0", "ok", "new 1", "ok", "new 2", "ok", "new 3", "ok", "new 4", "ok", "new 5", "error 150", "new 6", "error 150", "new 256", "error 150", "new 4294967296", "error 150", "new 9223372036854775808", "error 150", "new 18446744073709551615", "error 150", "new 18446744073709551616", "error 260", "new -1", "error 260", "new", "error 260")
	// A new draft has nothing of the one ahead of it, and one that is refused leaves it.
	full := []string{"new 1", "set chain 5", "set nonce 6", "set gas 7", "set price 8", "set value 9", "set data 0x0a", "set to nobody", "set warm " + first, "set slot " + one}
	for _, kind := range []string{"0", "1", "2"} {
		if got, want := answer(append(slices.Clone(full), "new "+kind), "signtx "+one), answer([]string{"new " + kind}, "signtx "+one); got != want || !strings.HasPrefix(got, "ok 0x") {
			t.Errorf("new %s: %s, want %s", kind, got, want)
		}
	}
	if got, want := answer(append(slices.Clone(full), "new 5"), "signtx "+one), answer(full, "signtx "+one); got != want || !strings.HasPrefix(got, "ok 0x01") {
		t.Errorf("new 5: %s, want %s", got, want)
	}
}

// wantSigned builds a draft and holds what is signed of it against the transaction.
func wantSigned(t *testing.T, want api.Tx, lines ...string) {
	t.Helper()
	signed, e := signing.Sign(want, api.U256{1})
	raw, e2 := wire.EncodeTx(signed)
	if e != api.OK || e2 != api.OK {
		t.Fatalf("%v: %v, %v", lines, e, e2)
	}
	answers := slices.Repeat([]string{"ok"}, len(lines))
	wantAnswers(t, append(slices.Clone(lines), "signtx "+one), append(answers, "ok "+told(raw)))
}

// P26.6: each field goes to its place, and nowhere else; the last one of two counts.
func TestSet(t *testing.T) {
	a, b := addressIn(first), addressIn(second)
	blob := api.Hash{0: 1, 31: 9}
	most := api.U256{1<<64 - 1, 1<<64 - 1, 1<<64 - 1, 1<<64 - 1}
	wantSigned(t, api.Tx{}, "new 0")
	wantSigned(t, api.Tx{Type: 1, Chain: 1<<63 - 1}, "new 1", "set chain 9223372036854775807")
	wantSigned(t, api.Tx{Chain: 3}, "set chain 3")
	wantSigned(t, api.Tx{}, "set chain 3", "set chain 0")
	wantSigned(t, api.Tx{Nonce: 1<<64 - 1}, "set nonce 18446744073709551615")
	wantSigned(t, api.Tx{Gas: 1<<64 - 1}, "set gas 5", "set gas 18446744073709551615")
	wantSigned(t, api.Tx{Price: most}, "set price "+widest)
	wantSigned(t, api.Tx{Value: most}, "set value "+widest)
	wantSigned(t, api.Tx{Type: 2, Tip: api.U256{1}, Cap: api.U256{2}}, "new 2", "set tip 1", "set cap 2")
	wantSigned(t, api.Tx{Type: 2, Cap: most}, "new 2", "set cap "+widest)
	wantSigned(t, api.Tx{Type: 2, Tip: most}, "new 2", "set tip "+widest)
	wantSigned(t, api.Tx{To: a}, "set to "+first)
	wantSigned(t, api.Tx{To: b}, "set to nobody", "set to "+strings.ToLower(second))
	wantSigned(t, api.Tx{Create: true}, "set to "+first, "set to nobody")
	wantSigned(t, api.Tx{Data: []byte{1, 2}}, "set data 0x03", "set data 0x0102")
	wantSigned(t, api.Tx{}, "set data 0x03", "set data 0x")
	wantSigned(t, api.Tx{Type: 3, BlobHashes: []api.Hash{blob}}, "new 3", "set blob "+toldHash(blob))
	wantSigned(t, api.Tx{Type: 3, BlobHashes: []api.Hash{blob, {1}, blob}, BlobCap: api.U256{7}}, "new 3", "set blob "+toldHash(blob), "set blob 0x01"+strings.Repeat("00", 31), "set blob "+toldHash(blob), "set blobcap 7")
	wantSigned(t, api.Tx{Type: 3, BlobHashes: []api.Hash{blob}, BlobCap: most}, "new 3", "set blob "+toldHash(blob), "set blobcap "+widest)
	wantSigned(t, api.Tx{Type: 1, Access: []api.AccessEntry{{Address: a}}}, "new 1", "set warm "+first)
	wantSigned(t, api.Tx{Type: 1, Access: []api.AccessEntry{{Address: a}, {Address: b, Keys: []api.Hash{{31: 1}, {31: 2}}}, {Address: a, Keys: []api.Hash{{31: 1}}}}}, "new 1", "set warm "+first, "set warm "+second, "set slot "+one, "set slot "+two, "set warm "+first, "set slot "+one)
	wantSigned(t, api.Tx{Type: 2, Chain: 1, Nonce: 2, Tip: api.U256{3}, Cap: api.U256{4}, Gas: 5, To: b, Value: api.U256{6}, Data: []byte{7}, Access: []api.AccessEntry{{Address: a, Keys: []api.Hash{{31: 2}}}}},
		"new 2", "set data 0x07", "set value 6", "set warm "+first, "set to "+second, "set gas 5", "set cap 4", "set slot "+two, "set tip 3", "set nonce 2", "set chain 1")
	// What is set behind a signature changes the draft still.
	wantTold(t, "new 1", "ok", "set warm "+first, "ok", "signtx "+one, "ok "+signedRaw(api.Tx{Type: 1, Access: []api.AccessEntry{{Address: a}}}), "set slot "+one, "ok", "set nonce 5", "ok", "signtx "+one, "ok "+signedRaw(api.Tx{Type: 1, Nonce: 5, Access: []api.AccessEntry{{Address: a, Keys: []api.Hash{{31: 1}}}}}))
}

// signedRaw tells the envelope of a transaction that the key 1 has signed.
func signedRaw(t api.Tx) string {
	signed, e := signing.Sign(t, api.U256{1})
	raw, e2 := wire.EncodeTx(signed)
	if e != api.OK || e2 != api.OK {
		panic("no transaction")
	}
	return told(raw)
}

// P26.6: words that set nothing.
func TestSetWrong(t *testing.T) {
	for _, what := range []string{"bogus", "Chain", "chains", "type", "create", "access", "auth", "auths", "v", "r", "s", "hash", "blobs", "blobhash", "tips", "nobody", "0", one, "#"} {
		for _, w := range []string{"0", "1", "0x", one, first, "nobody"} {
			wantRun(t, "new 3\nset "+what+" "+w, "ok\nerror 260\n")
		}
	}
	for what, form := range map[string]string{"chain": "U", "nonce": "U", "gas": "U", "price": "N", "tip": "N", "cap": "N", "value": "N", "blobcap": "N", "data": "D", "blob": "H", "warm": "A"} {
		for _, w := range wrong(form) {
			wantRun(t, "new 3\nset "+what+" "+w, "ok\nerror 260\n")
		}
		for _, w := range good(form) {
			wantRun(t, "new 3\nset "+what+" "+w+"\nset "+what+" "+w+" "+w, "ok\nok\nerror 260\n")
		}
	}
	for _, w := range wrong("A") {
		want := "error 260\n"
		if w == "nobody" {
			want = "ok\n"
		}
		wantRun(t, "set to "+w, want)
	}
	for _, w := range append(wrong("A"), "Nobody", "nobod", "nobodyy", "none", "", "0x0") {
		if w != "nobody" {
			wantRun(t, "set to "+w, "error 260\n")
		}
	}
	for _, w := range append(wrong("H"), one) {
		wantRun(t, "set slot "+w, "error 260\n")
		wantRun(t, "set warm "+first+"\nnew 1\nset slot "+w, "ok\nok\nerror 260\n")
		if w != one {
			wantRun(t, "set warm "+first+"\nset slot "+w, "ok\nerror 260\n")
		}
	}
}

// P26.6: drafts that can't be signed: the order of the errors is that of the layers below; the draft is as it was.
func TestSignTxWrong(t *testing.T) {
	for _, c := range []struct {
		want  string
		lines []string
	}{
		{"error 152", []string{"new 0", "set tip 1"}},
		{"error 152", []string{"new 2", "set price 1"}},
		{"error 152", []string{"new 0", "set warm " + first}},
		{"error 152", []string{"new 2", "set blob 0x01" + strings.Repeat("00", 31)}},
		{"error 152", []string{"new 3", "set blob " + one}},
		{"error 152", []string{"new 3", "set blobcap 1", "set blob " + one}},
		{"error 153", []string{"new 1", "set chain 9223372036854775808"}},
		{"error 153", []string{"new 0", "set chain 18446744073709551615"}},
		{"error 155", []string{"new 3", "set to nobody"}},
		{"error 155", []string{"new 4", "set to nobody"}},
		{"error 156", []string{"new 3"}},
		{"error 156", []string{"new 4"}},
		{"error 2", []string{"new 0", "set data 0x" + strings.Repeat("00", maxInput)}},
	} {
		for _, key := range []string{one, nought} {
			if got := answer(c.lines, "signtx "+key); got != c.want {
				t.Errorf("%.200v: %s, want %s", c.lines, got, c.want)
			}
		}
		if got := answer(append(slices.Clone(c.lines), "signtx "+one, "new 0"), "signtx "+one); !strings.HasPrefix(got, "ok 0x") {
			t.Errorf("%.200v: %s behind it", c.lines, got)
		}
	}
	// What is signed is short enough, the envelope is not.
	wantTold(t, "set data 0x"+strings.Repeat("00", maxInput-60), "ok", "signtx "+one, "error 2", "signtx "+nought, "error 60", "set data 0x", "ok", "signtx "+one, "ok "+signedRaw(api.Tx{}))
	wantTold(t,
		"new 2", "ok", "set nonce 3", "ok", "set price 1", "ok", "signtx "+one, "error 152", "signtx "+nought, "error 152", "set price 0", "ok", "signtx "+nought, "error 60",
		"signtx "+one, "ok "+signedRaw(api.Tx{Type: 2, Nonce: 3}),
	)
}
