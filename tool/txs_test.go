package tool_test

import (
	"strings"
	"testing"

	"waybill/api"
	"waybill/chance"
	"waybill/tx"
	"waybill/wire"
)

// rawTx tells a transaction's envelope by chance: signed, with a signature that seldom is one, or broken.
func rawTx(row *chance.Row) string {
	kind := row.Below(5)
	t := api.Tx{Type: kind, Chain: uint64(row.Below(3)), Nonce: row.Next() >> row.Below(65), Gas: row.Next() >> row.Below(65), Value: row.Number(), To: api.Address(row.Text(20)), Data: row.Text(row.Below(50))}
	if kind < 2 {
		t.Price = row.Number()
	} else {
		t.Tip, t.Cap = api.U256{uint64(row.Below(20))}, api.U256{uint64(row.Below(20))}
	}
	if kind > 0 && row.Below(2) == 0 {
		t.Access = []api.AccessEntry{{Keys: make([]api.Hash, row.Below(3))}, {}}
	}
	if kind < 3 && row.Below(3) == 0 {
		t.Create, t.To = true, api.Address{}
	}
	switch kind {
	case 3:
		t.BlobHashes = []api.Hash{{1}, {1, 2}}[:1+row.Below(2)]
	case 4:
		t.Auths = []api.Auth{{Nonce: 1}}
	}
	switch row.Below(3) {
	case 0:
		return signedRaw(t)
	case 1:
		t.R, t.S = row.Number(), api.U256{uint64(row.Below(3))}
	}
	if t.V = (api.U256{uint64(row.Below(2))}); kind == 0 {
		t.Chain, t.V = 0, api.U256{27}
	}
	b, e := wire.EncodeTx(t)
	if e != api.OK {
		panic("no transaction")
	}
	if row.Below(4) == 0 {
		b[row.Below(len(b))] = byte(row.Next())
	}
	return told(b)
}

// P26.6: what is told of a transaction: chains, receivers, unsigned ones, wrong signatures, texts that are none.
func TestTx(t *testing.T) {
	hashOf := func(raw string) string { return answer(nil, "keccak "+raw)[3:] }
	zero := "0x0000000000000000000000000000000000000000"
	old := "0xc98080808080801b8080"
	bare := "0x01cb01808080808080c0808080"
	odd := "0xc9808080808080250501"
	wantTold(t,
		"tx "+old, "type 0\nchain none\nnonce 0\ngas 0\nvalue 0\nto nobody\ndata 0x\nhash "+hashOf(old)+"\nsender error 61\nok",
		"tx "+bare, "type 1\nchain 1\nnonce 0\ngas 0\nvalue 0\nto nobody\ndata 0x\nhash "+hashOf(bare)+"\nsender error 160\nok",
		"tx "+odd, "type 0\nchain 1\nnonce 0\ngas 0\nvalue 0\nto nobody\ndata 0x\nhash "+hashOf(odd)+"\nsender error 64\nok",
		// Of the types above 0 a chain 0 is a number like others.
		"tx 0x01cb80808080808080c0808080", "type 1\nchain 0\nnonce 0\ngas 0\nvalue 0\nto nobody\ndata 0x\nhash "+hashOf("0x01cb80808080808080c0808080")+"\nsender error 160\nok",
		"tx 0x", "error 70",
		"tx 0x00", "error 150",
		"tx 0x05c0", "error 150",
		"tx 0x80", "error 157",
		"tx 0xc0", "error 151",
		"tx 0xc9808080808080808080", "error 154",
		"tx "+old+"00", "error 73",
		"tx "+old+" "+old, "error 260",
		"tx 0x0", "error 260",
	)
	big := signedRaw(api.Tx{Type: 2, Chain: 1<<63 - 1, Nonce: 1<<64 - 1, Gas: 1<<64 - 1, Value: api.U256{1<<64 - 1, 1<<64 - 1, 1<<64 - 1, 1<<64 - 1}, Data: []byte{0, 0xab}})
	wantTold(t, "tx "+big, "type 2\nchain 9223372036854775807\nnonce 18446744073709551615\ngas 18446744073709551615\nvalue "+widest+"\nto "+zero+"\ndata 0x00ab\nhash "+hashOf(big)+"\nsender "+first+"\nok")
}

// P26.6: senders of many texts; how many workers there may be.
func TestSenders(t *testing.T) {
	both := eip155Hash + " " + eip155From + "\n" + oldestHash + " " + oldestFrom + "\n"
	wantTold(t,
		"senders 1", "ok 0",
		"senders 64", "ok 0",
		"senders 0", "error 1",
		"senders 65", "error 1",
		"senders 2147483647", "error 1",
		"senders 2147483648", "error 260",
		"senders", "error 260",
		"senders 0x", "error 260",
		"senders 1 "+eip155+" "+oldest, both+"ok 2",
		"senders 2 "+eip155+" "+oldest, both+"ok 2",
		"senders 64 "+eip155+" "+oldest, both+"ok 2",
		"senders 3 0x "+eip155+" 0xc0 "+oldest+" 0xc98080808080801b8080 0x01cb01808080808080c0808080", "error 70\n"+eip155Hash+" "+eip155From+"\nerror 151\n"+oldestHash+" "+oldestFrom+"\nerror 61\nerror 160\nok 6",
		"senders 2 "+eip155+" 0x0", "error 260",
		"senders 0 0x0", "error 260",
		"senders 7"+strings.Repeat(" 0x", 65535), strings.Repeat("error 70\n", 65535)+"ok 65535",
		"senders 7"+strings.Repeat(" 0x", 65536), "error 204",
	)
}

// P26.6: fees, with chapter 18's examples, and prices from block to block.
func TestFees(t *testing.T) {
	raw := func(x api.Tx) string {
		if x.Type == 0 {
			x.V = api.U256{27}
		}
		b, e := tx.Encode(x)
		if e != api.OK {
			t.Fatalf("%v: %d", x, e)
		}
		return told(b)
	}
	plain := raw(api.Tx{Price: api.U256{7}})
	dynamic := raw(api.Tx{Type: 2, Tip: api.U256{2}, Cap: api.U256{10}, Data: []byte{0, 1}, Access: []api.AccessEntry{{Keys: make([]api.Hash, 2)}}})
	wantTold(t,
		"fees "+plain+" 5", "ok 21000 21000 7 2",
		"fees "+plain+" 7", "ok 21000 21000 7 0",
		"fees "+plain+" 8", "error 180",
		"fees "+dynamic+" 0", "ok 27220 21050 2 2",
		"fees "+dynamic+" 5", "ok 27220 21050 7 2",
		"fees "+dynamic+" 9", "ok 27220 21050 10 1",
		"fees "+dynamic+" 10", "ok 27220 21050 10 0",
		"fees "+dynamic+" 11", "error 180",
		"fees "+dynamic+" "+widest, "error 180",
		"fees "+dynamic+" "+wide, "error 260",
		"fees "+raw(api.Tx{Type: 2, Tip: api.U256{11}, Cap: api.U256{10}})+" 0", "error 181",
		"fees "+raw(api.Tx{Create: true, Data: make([]byte, 33), Price: api.U256{1}})+" 0", "ok 53136 21330 1 1",
		"fees 0x 1", "error 70",
		"fees 0xc0 1", "error 151",
		"fees 0x x", "error 260",
		"base 1000 30 15", "ok 1000",
		"base 1000 30 30", "ok 1125",
		"base 1000 30 0", "ok 875",
		"base 1 30 16", "ok 2",
		"base 1000 3 3", "ok 1250",
		"base 5 1 0", "error 1",
		"base 5 10 11", "error 184",
		"base "+widest+" 2 2", "error 183",
		"base "+wide+" 2 2", "error 260",
		"base 1 18446744073709551616 1", "error 260",
		"base 1 1 18446744073709551616", "error 260",
		"base 8 18446744073709551615 18446744073709551615", "ok 9",
		"blobbase 0 3338477", "ok 1",
		"blobbase 2314057 3338477", "ok 1",
		"blobbase 2314058 3338477", "ok 2",
		"blobbase 5 1", "ok 136",
		"blobbase 1 0", "error 1",
		"blobbase 18446744073709551615 1", "error 183",
		"blobbase 18446744073709551616 1", "error 260",
		"blobbase 1", "error 260",
	)
}

// P26.6: against the model, of transactions by chance.
func TestTxsModel(t *testing.T) {
	row := chance.Row(2640)
	var lines []string
	for range 60 {
		a, b := rawTx(&row), rawTx(&row)
		lines = append(lines, "tx "+a, "tx "+b, "fees "+a+" "+num(row.Next()>>(44+row.Below(21))), "fees "+b+" 0", "senders "+num(uint64(row.Below(5)))+" "+a+" "+b, "kind "+a, "keccak "+b)
		lines = append(lines, "base "+sum(row.Number())+" "+num(row.Next()>>row.Below(65))+" "+num(row.Next()>>row.Below(65)), "blobbase "+num(row.Next()>>row.Below(65))+" "+num(row.Next()>>row.Below(65)))
	}
	wantAnswers(t, lines, newModel().run(lines))
}
