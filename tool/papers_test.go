package tool_test

import (
	"slices"
	"strings"
	"testing"

	"waybill/api"
	"waybill/block"
	"waybill/chance"
	"waybill/header"
	"waybill/receipt"
	"waybill/tx"
)

func rawReceipt(r api.Receipt) string {
	r.Bloom = receipt.BloomOf(r.Logs)
	b, e := receipt.Encode(r)
	if e != api.OK {
		panic("no receipt")
	}
	return told(b)
}

func rawHeader(h api.Header) string {
	b, e := header.Encode(h)
	if e != api.OK {
		panic("no header")
	}
	return told(b)
}

func rawBlock(b api.Block) string {
	raw, e := block.Encode(b)
	if e != api.OK {
		panic("no block")
	}
	return told(raw)
}

// mainnet are the headers of the chain's first two blocks, written down from memory; their hashes would show a slip.
func mainnet() (genesis, child api.Header) {
	uncles := api.Hash(digits("0x1dcc4de8dec75d7aab85b567b6ccd41ad312451b948a7413f0a142fd40d49347"))
	none := hashIn(empty)
	genesis = api.Header{Uncles: uncles, State: hashIn("0xd7f8974fb5ac78d9ac099b9ad5018bedc2ce0a72dad1827a1709da30580f0544"), TxRoot: none, ReceiptRoot: none, Difficulty: api.U256{17179869184}, Limit: 5000, Extra: digits("11bbe8db4e347b4e8c937c1c8370e4b5ed33adb3db69cbdb7a38e1e50b1b82fa"), Nonce: [8]byte{7: 0x42}}
	child = api.Header{Parent: hashIn("0xd4e56740f876aef8c010b86a40d5f56745a118d0906a34e69aec8c0db1cb8fa3"), Uncles: uncles, Coinbase: addressIn("0x05a56e2d52c817161883f50c441c3228cfe54d9f"), State: hashIn("0xd67e4d450343046425ae4271474353857ab860dbc0a1dde64b41b5cd3a532bf3"), TxRoot: none, ReceiptRoot: none, Difficulty: api.U256{17171480576}, Number: 1, Limit: 5000, Time: 1438269988, Extra: []byte("Geth/v1.0.0/linux/go1.4.2"), Mix: hashIn("0x969b900de27b6ac6a67742365dd65f55a0526c41fd18e1b16f1a1215c2e66f59"), Nonce: [8]byte(digits("539bd4979fef1ec4"))}
	return genesis, child
}

// P26.7: receipts with a status and with a root, without logs and with several.
func TestReceipt(t *testing.T) {
	a, b := addressIn(first), addressIn(second)
	root := "0x" + strings.Repeat("ab", 32)
	logs := []api.Log{{Address: a, Topics: []api.Hash{hashIn(one), hashIn(two)}, Data: []byte("hi")}, {Address: b}, {Address: a, Data: []byte{0}}, {Address: b, Topics: make([]api.Hash, 4)}}
	wantTold(t,
		"receipt "+rawReceipt(api.Receipt{Status: 1, Used: 21000}), "type 0\nstatus 1\nused 21000\nok 0",
		"receipt 0xf9010801825208b90100"+strings.Repeat("00", 256)+"c0", "type 0\nstatus 1\nused 21000\nok 0",
		"receipt "+rawReceipt(api.Receipt{}), "type 0\nstatus 0\nused 0\nok 0",
		"receipt "+rawReceipt(api.Receipt{Type: 4, Used: 1<<64 - 1}), "type 4\nstatus 0\nused 18446744073709551615\nok 0",
		"receipt "+rawReceipt(api.Receipt{Rooted: true, Root: hashIn(root), Used: 7}), "type 0\nroot "+root+"\nused 7\nok 0",
		"receipt "+rawReceipt(api.Receipt{Rooted: true}), "type 0\nroot "+nought+"\nused 0\nok 0",
		"receipt "+rawReceipt(api.Receipt{Type: 2, Status: 1, Used: 50000, Logs: logs}), "type 2\nstatus 1\nused 50000\n"+
			"log "+first+" "+one+" "+two+" 0x6869\nlog "+second+" 0x\nlog "+first+" 0x00\nlog "+second+strings.Repeat(" "+nought, 4)+" 0x\nok 4",
		"receipt "+rawReceipt(api.Receipt{Type: 1, Logs: logs[1:2]}), "type 1\nstatus 0\nused 0\nlog "+second+" 0x\nok 1",
		"receipt 0x", "error 70",
		"receipt 0x00", "error 170",
		"receipt 0xc0", "error 171",
		"receipt 0xf9010802825208b90100"+strings.Repeat("00", 256)+"c0", "error 172",
		"receipt 0xf9010801825208b90100"+strings.Repeat("00", 255)+"01c0", "error 173",
		"receipt 0xf9010801825208b90100"+strings.Repeat("00", 256)+"c000", "error 73",
		"receipt", "error 260",
		"receipt 0xc0 0xc0", "error 260",
	)
}

// P26.7: headers that are known from elsewhere; each tail.
func TestHeader(t *testing.T) {
	genesis, child := mainnet()
	wantTold(t,
		"header "+rawHeader(genesis), "ok 0xd4e56740f876aef8c010b86a40d5f56745a118d0906a34e69aec8c0db1cb8fa3 0 0",
		"header "+rawHeader(child), "ok 0x88e96d4537bea4d9c05d12549907b32561d3bf31f45aae734cdc119f13406cb6 1 0",
		"header 0x80", "error 75",
		"header 0xc0", "error 190",
		"header 0x", "error 70",
		"header "+rawHeader(child)+"00", "error 73",
		"header", "error 260",
		"child "+rawHeader(genesis)+" "+rawHeader(child), "ok",
		"child "+rawHeader(child)+" "+rawHeader(genesis), "error 193",
		"child "+rawHeader(child)+" "+rawHeader(child), "error 193",
		"child 0xc0 0x80", "error 190",
		"child 0x80 0xc0", "error 75",
		"child "+rawHeader(genesis)+" 0xc0", "error 190",
		"child 0xc0 "+rawHeader(child), "error 190",
		"child "+rawHeader(genesis), "error 260",
		"child "+rawHeader(genesis)+" "+rawHeader(child)+" "+rawHeader(child), "error 260",
		"child 0x "+rawHeader(child)+"0", "error 260",
	)
	child.Time = 0
	wantTold(t, "child "+rawHeader(genesis)+" "+rawHeader(child), "error 194")
	for tail := range 5 {
		h := api.Header{Tail: tail, Number: 1<<64 - 1 - uint64(tail), Time: 5}
		want := "ok " + answer(nil, "keccak "+rawHeader(h))[3:] + " " + num(h.Number) + " " + num(uint64(tail))
		wantTold(t, "header "+rawHeader(h), want)
	}
	parent := api.Header{Limit: 30000000, Tail: 1, BaseFee: api.U256{1000}, Number: 41, Used: 30000000}
	for tail := 1; tail < 5; tail++ {
		next, e := header.Next(parent, 1, tail)
		if e != api.OK {
			t.Fatal(e)
		}
		wantTold(t, "child "+rawHeader(parent)+" "+rawHeader(next), "ok")
		next.BaseFee = api.U256{1}
		wantTold(t, "child "+rawHeader(parent)+" "+rawHeader(next), "error 196")
	}
}

// someBlock tells a block that is whole.
func someBlock(tail, txs, uncles, draws int) api.Block {
	b := api.Block{Header: api.Header{Tail: tail, Number: 9}, Drawn: tail >= 2}
	for i := range txs {
		b.Txs = append(b.Txs, api.Tx{Type: 1, Nonce: uint64(i)})
	}
	for i := range uncles {
		b.Uncles = append(b.Uncles, api.Header{Number: uint64(i)})
	}
	for i := range draws {
		b.Withdrawals = append(b.Withdrawals, api.Withdrawal{Index: uint64(i)})
	}
	sealed, e := block.Seal(b)
	if e != api.OK {
		panic("no block")
	}
	return sealed
}

// P26.7: blocks, what they hold, whether they are whole.
func TestBlock(t *testing.T) {
	for _, c := range []struct {
		b    api.Block
		want string
	}{
		{someBlock(0, 0, 0, 0), "9 0 0 0"},
		{someBlock(0, 3, 2, 0), "9 3 2 0"},
		{someBlock(1, 1, 0, 0), "9 1 0 0"},
		{someBlock(2, 0, 0, 0), "9 0 0 0"},
		{someBlock(2, 0, 1, 3), "9 0 1 3"},
		{someBlock(4, 5, 4, 16), "9 5 4 16"},
	} {
		hash := answer(nil, "keccak "+rawHeader(c.b.Header))[3:]
		counts := strings.TrimPrefix(c.want, "9 ")
		wantTold(t, "block "+rawBlock(c.b), "ok "+hash+" "+counts, "whole "+rawBlock(c.b), "ok", "header "+rawHeader(c.b.Header), "ok "+hash+" 9 "+num(uint64(c.b.Header.Tail)))
	}
	broken := someBlock(2, 2, 1, 2)
	for want, spoil := range map[string]func(*api.Block){
		"error 201": func(b *api.Block) { b.Header.TxRoot[0]++ },
		"error 202": func(b *api.Block) { b.Header.Uncles[31]++ },
		"error 203": func(b *api.Block) { b.Header.Withdrawals[5]++ },
	} {
		b := broken
		spoil(&b)
		hash := answer(nil, "keccak "+rawHeader(b.Header))[3:]
		wantTold(t, "block "+rawBlock(b), "ok "+hash+" 2 1 2", "whole "+rawBlock(b), want)
	}
	blobs := someBlock(3, 1, 0, 0)
	blobs.Header.BlobUsed = 131072
	wantTold(t, "whole "+rawBlock(blobs), "error 205", "whole 0xc0", "error 200", "block 0xc0", "error 200", "block 0x", "error 70", "whole 0x", "error 70", "block 0xc3c0c0c0", "error 190", "whole 0xc3c0c0c0", "error 190", "block", "error 260", "whole", "error 260", "whole 0xc0 0xc0", "error 260", "block 0xc", "error 260")
}

// P26.7: what kinds of things bytes are.
func TestKind(t *testing.T) {
	old, _ := tx.Encode(api.Tx{V: api.U256{27}})
	wantTold(t,
		"kind 0xc0", "ok 0",
		"kind 0x", "ok 0",
		"kind "+told(old), "ok 1",
		"kind "+eip155, "ok 1",
		"kind "+rawReceipt(api.Receipt{Type: 3}), "ok 2",
		"kind "+rawReceipt(api.Receipt{}), "ok 2",
		"kind "+rawHeader(api.Header{Tail: 2}), "ok 4",
		"kind "+rawBlock(someBlock(0, 1, 1, 0)), "ok 8",
		"kind "+rawBlock(someBlock(4, 0, 0, 1)), "ok 8",
		"kind "+eip155+"00", "ok 0",
		"kind", "error 260",
		"kind 0xc0 0xc0", "error 260",
		"kind x", "error 260",
	)
}

// papers tells some of each kind by chance.
func papers(row *chance.Row) []string {
	genesis, child := mainnet()
	logs := []api.Log{{Address: api.Address{19: 1}, Topics: make([]api.Hash, row.Below(5)), Data: row.Text(row.Below(40))}, {}, {Data: []byte{7}}}
	h := api.Header{Tail: row.Below(5), Number: row.Next() >> row.Below(65), Time: uint64(row.Below(3)), Limit: 5000, Extra: row.Text(row.Below(33))}
	next, _ := header.Next(h, h.Time+1, min(h.Tail+row.Below(2), 4))
	whole := someBlock(row.Below(5), row.Below(3), row.Below(3), 0)
	broken := someBlock(2+row.Below(3), row.Below(3), row.Below(3), row.Below(3))
	broken.Header.TxRoot[0] ^= byte(row.Below(2))
	all := []string{
		rawTx(row), rawTx(row), "0xc0", "0x", "0x80",
		rawReceipt(api.Receipt{Type: row.Below(5), Status: uint64(row.Below(2)), Used: row.Next() >> row.Below(65), Logs: logs[:row.Below(4)]}),
		rawReceipt(api.Receipt{Rooted: true, Root: api.Hash(row.Text(32)), Logs: logs[:row.Below(2)]}),
		rawHeader(h), rawHeader(genesis), rawHeader(child), rawBlock(whole), rawBlock(broken),
	}
	if b, e := header.Encode(next); e == api.OK {
		all = append(all, told(b))
	}
	if row.Below(2) == 0 {
		b := digits(all[row.Below(len(all))])
		if len(b) > 0 {
			b[row.Below(len(b))] = byte(row.Next())
		}
		all = append(all, told(b))
	}
	return all
}

// P26.7: against the model: papers of each kind, taken for what they are and for others.
func TestPapersModel(t *testing.T) {
	row := chance.Row(2650)
	var lines []string
	for range 60 {
		all := papers(&row)
		for _, raw := range all {
			for _, name := range []string{"receipt", "kind", "header", "block", "whole"} {
				lines = append(lines, name+" "+raw)
			}
			lines = append(lines, "child "+raw+" "+all[row.Below(len(all))], "child "+all[7]+" "+raw, "child "+raw+" "+all[len(all)-1])
		}
	}
	wantAnswers(t, lines, newModel().run(lines))
	if !slices.Contains(newModel().run(lines), "ok") {
		t.Error("none was whole, and none a child")
	}
}
