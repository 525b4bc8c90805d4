package tool_test

import (
	"strings"
	"testing"

	"waybill/api"
	"waybill/chance"
	"waybill/signing"
	"waybill/wire"
)

// sent tells the envelope of a transaction that a key has signed, and its hash.
func sent(key uint64, t api.Tx) (raw, hash string) {
	signed, e := signing.Sign(t, api.U256{key})
	b, e2 := wire.EncodeTx(signed)
	h, e3 := wire.TxHash(b)
	if e != api.OK || e2 != api.OK || e3 != api.OK {
		panic("no transaction")
	}
	return told(b), toldHash(h)
}

func offer(nonce, tip, limit uint64) api.Tx {
	return api.Tx{Type: 2, Chain: 1, Nonce: nonce, Tip: api.U256{tip}, Cap: api.U256{limit}, Gas: 21000}
}

// P26.9: commands of a pool without one: the forms of their words are asked for first.
func TestNoPool(t *testing.T) {
	for line, bad := range map[string][]string{
		"fund " + first + " 0 1": {"fund", "fund " + first, "fund " + first + " 0", "fund " + first + " x 1", "fund x 0 1", "fund " + first + " 0 1 1"},
		"poolbase 1":             {"poolbase", "poolbase x", "poolbase 1 1"},
		"submit 0x":              {"submit", "submit x", "submit 0x 0x"},
		"ready 1":                {"ready", "ready x", "ready 1 1"},
		"drop " + one:            {"drop", "drop 0x", "drop " + one + " " + one},
		"mined":                  {"mined x", "mined " + one + " x"},
		"mined " + one:           {"mined 0x"},
	} {
		wantRun(t, line, "error 261\n")
		for _, b := range bad {
			wantRun(t, b, "error 260\n")
			wantRun(t, "pool 1 1 1 1\n"+b, "ok\nerror 260\n")
		}
	}
	wantTold(t,
		"pool 1 0 0 0", "error 1",
		"ready 1", "error 261",
		"pool 9223372036854775808 0 0 1", "error 1",
		"pool 1 0 0 4097", "error 1",
		"pool 1 0 0 2147483647", "error 1",
		"pool 1 0 0 2147483648", "error 260",
		"pool 1 0 0", "error 260",
		"ready 1", "error 261",
		"pool 9223372036854775807 "+widest+" 18446744073709551615 4096", "ok",
		"ready 1", "ok 0",
		"pool 1 0 0 0", "error 1",
		"ready 1", "ok 0", // the one ahead is there still
	)
}

// P26.9: chapter 24's examples as a script.
func TestPool(t *testing.T) {
	a0, hashA0 := sent(1, offer(0, 1, 20))
	other, _ := sent(1, api.Tx{Type: 2, Chain: 2, Tip: api.U256{1}, Cap: api.U256{20}, Gas: 21000})
	little, _ := sent(1, api.Tx{Type: 2, Chain: 1, Tip: api.U256{1}, Cap: api.U256{20}, Gas: 20999})
	a21, _ := sent(1, offer(0, 1, 21))
	a22, _ := sent(1, offer(0, 1, 22))
	best, hashBest := sent(1, offer(0, 2, 22))
	b5, hashB5 := sent(2, offer(5, 3, 30))
	low, _ := sent(1, offer(1, 1, 22))
	high, hashHigh := sent(1, offer(1, 1, 23))
	wantTold(t,
		"pool 1 10 30000000 2", "ok",
		"submit "+a0, "error 245",
		"fund "+first+" 0 1000000000000000000", "ok",
		"fund "+second+" 0 1000000000000000000", "ok",
		"submit "+a0, "ok "+hashA0,
		"submit "+a0, "error 241",
		"submit "+other, "error 248",
		"submit "+little, "error 182",
		"submit "+a21, "error 243",
		"submit "+a22, "error 243",
		"submit 0x", "error 70",
		"submit 0xc0", "error 151",
		"submit 0x01cb01808080808080c0808080", "error 240",
		"ready 30000000", hashA0+" "+first+" 0 1\nok 1",
		"ready 21000", hashA0+" "+first+" 0 1\nok 1",
		"ready 20999", "ok 0",
		"submit "+best, "ok "+hashBest,
		"ready 30000000", hashBest+" "+first+" 0 2\nok 1",
		"drop "+hashA0, "error 247",
		"submit "+b5, "ok "+hashB5,
		"ready 30000000", hashBest+" "+first+" 0 2\nok 1",
		"submit "+low, "error 244",
		"submit "+high, "ok "+hashHigh,
		"ready 30000000", "ok 0",
		"fund "+first+" 1 1000000000000000000", "ok",
		"ready 30000000", hashHigh+" "+first+" 1 1\nok 1",
		"poolbase 23", "ok",
		"ready 30000000", hashHigh+" "+first+" 1 0\nok 1",
		"poolbase 24", "ok",
		"ready 30000000", "ok 0",
		"fund "+first+" 7 0", "ok",
		"drop "+hashHigh, "error 247",
		"mined "+hashB5, "ok 1",
		"mined "+hashB5+" "+one+" "+hashA0, "ok 0",
		"mined", "ok 0",
		"fund "+second+" 6 1000000000000000000", "ok",
		"submit "+b5, "error 242",
		"fund "+second+" 5 1000000000000000000", "ok",
		"submit "+b5, "ok "+hashB5,
		"poolbase 10", "ok",
		"ready 18446744073709551615", hashB5+" "+second+" 5 3\nok 1",
		"drop "+hashB5, "ok",
		"drop "+hashB5, "error 247",
		"ready 18446744073709551615", "ok 0",
		"submit "+b5, "ok "+hashB5,
		"pool 1 10 30000000 2", "ok", // a new one, in which nothing waits
		"ready 30000000", "ok 0",
		"submit "+b5, "error 245",
	)
}

// P26.9: several that are ready, in their order; several that are mined.
func TestReady(t *testing.T) {
	a0, hashA0 := sent(1, offer(0, 1, 20))
	a1, hashA1 := sent(1, offer(1, 9, 20))
	b0, hashB0 := sent(2, offer(0, 5, 20))
	third, _ := sent(1, offer(2, 9, 20))
	wantTold(t,
		"pool 1 10 30000000 10", "ok",
		"fund "+first+" 0 840000", "ok",
		"fund "+second+" 0 1000000", "ok",
		"submit "+a1, "ok "+hashA1,
		"submit "+b0, "ok "+hashB0,
		"submit "+a0, "ok "+hashA0,
		"submit "+third, "error 245",
		"ready 30000000", hashB0+" "+second+" 0 5\n"+hashA0+" "+first+" 0 1\n"+hashA1+" "+first+" 1 9\nok 3",
		"ready 42000", hashB0+" "+second+" 0 5\n"+hashA0+" "+first+" 0 1\nok 2",
		"mined "+hashA1+" "+hashA0+" "+hashB0+" "+hashB0, "ok 2",
		"ready 30000000", "ok 0",
	)
}

// offers are transactions of some senders, with their hashes.
func offers() (raws, hashes []string) {
	for key := range uint64(3) {
		for nonce := range uint64(3) {
			for _, caps := range [][2]uint64{{1, 20}, {2, 22}, {9, 40}} {
				raw, hash := sent(key+1, offer(nonce, caps[0], caps[1]))
				raws, hashes = append(raws, raw), append(hashes, hash)
			}
		}
	}
	return raws, hashes
}

// poolLine tells one command on a pool by chance.
func poolLine(row *chance.Row, raws, hashes []string) string {
	who := []string{first, second, fromThree}[row.Below(3)]
	some := row.Below(len(raws))
	switch row.Below(14) {
	case 0:
		if row.Below(3) > 0 {
			return "ready 42000"
		}
		return "pool 1 " + num(uint64(row.Below(12))) + " 30000000 " + num(uint64(row.Below(6)))
	case 1, 2:
		return "fund " + who + " " + num(uint64(row.Below(3))) + " 1000000000"
	case 3:
		return "fund " + who + " 0 " + num(uint64(row.Below(1000000)))
	case 4:
		return "poolbase " + num(uint64(row.Below(30)))
	case 5:
		return "drop " + hashes[some]
	case 6:
		return strings.Join(append([]string{"mined"}, hashes[some:min(some+row.Below(3), len(hashes))]...), " ")
	case 7, 8:
		return "ready " + num(uint64(row.Below(100000)))
	}
	return "submit " + raws[some]
}

const fromThree = "0x6813Eb9362372EEF6200f3b1dbC3f819671cBA69" // the address of the key 3

// P26.9: against the model.
func TestPoolModel(t *testing.T) {
	row := chance.Row(2670)
	raws, hashes := offers()
	for range 15 {
		lines := []string{"pool 1 5 30000000 " + num(uint64(1+row.Below(8)))}
		for _, who := range []string{first, second, fromThree} {
			lines = append(lines, "fund "+who+" 0 1000000000")
		}
		for range 60 {
			lines = append(lines, poolLine(&row, raws, hashes))
		}
		wantAnswers(t, lines, newModel().run(lines))
		wantAnswers(t, lines[1:], newModel().run(lines[1:]))
	}
}
