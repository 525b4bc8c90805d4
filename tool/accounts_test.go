package tool_test

import (
	"strings"
	"testing"

	"waybill/chance"
)

const (
	ann = first
	bob = "0x0000000000000000000000000000000000000002"
)

// P26.8: balances.
func TestBalances(t *testing.T) {
	entry := func(balance string) string { return "ok 0 " + balance + " " + empty + " " + nothing }
	wantTold(t,
		"stateroot", "ok "+empty,
		"account "+ann, "ok none",
		"mint "+ann+" 0", "ok",
		"account "+ann, "ok none",
		"mint "+ann+" 5", "ok",
		"account "+ann, entry("5"),
		"mint "+ann+" 5", "ok",
		"account "+ann, entry("10"),
		"burn "+ann+" 11", "error 210",
		"burn "+ann+" 3", "ok",
		"account "+ann, entry("7"),
		"send "+ann+" "+bob+" 8", "error 210",
		"send "+bob+" "+ann+" 1", "error 210",
		"send "+ann+" "+bob+" 2", "ok",
		"account "+ann, entry("5"),
		"account "+bob, entry("2"),
		"send "+ann+" "+ann+" 5", "ok",
		"send "+ann+" "+ann+" 6", "error 210",
		"send "+ann+" "+bob+" 5", "ok",
		"account "+ann, "ok none",
		"burn "+bob+" 7", "ok",
		"account "+bob, "ok none",
		"stateroot", "ok "+empty,
		"mint "+ann+" "+widest, "ok",
		"mint "+ann+" 1", "error 211",
		"mint "+bob+" 1", "ok",
		"send "+bob+" "+ann+" 1", "error 211",
		"account "+ann, entry(widest),
		"account "+strings.ToLower(ann), entry(widest),
		"account "+bob, entry("1"),
		"mint "+ann+" "+wide, "error 260",
		"mint 0x00 1", "error 260",
		"mint "+ann, "error 260",
		"burn "+ann, "error 260",
		"send "+ann+" 1", "error 260",
		"send "+ann+" 1 "+bob, "error 260",
	)
}

// P26.8: nonces, storage, code, accounts destroyed.
func TestAccounts(t *testing.T) {
	wantTold(t,
		"bump "+ann, "ok 1",
		"bump "+ann, "ok 2",
		"bump "+bob, "ok 1",
		"account "+ann, "ok 2 0 "+empty+" "+nothing,
		"load "+ann+" "+one, "ok 0",
		"store "+ann+" "+one+" 7", "ok",
		"store "+ann+" "+two+" "+widest, "ok",
		"load "+ann+" "+one, "ok 7",
		"load "+ann+" "+two, "ok "+widest,
		"load "+bob+" "+one, "ok 0",
		"store "+ann+" "+two+" 0", "ok",
		"load "+ann+" "+two, "ok 0",
		"store "+ann+" "+one+" "+wide, "error 260",
		"store "+ann+" 0x01 1", "error 260",
		"load "+ann+" 1", "error 260",
		"load "+ann, "error 260",
		"code "+ann+" 0x6001", "ok",
		"account "+ann, "ok 2 0 "+answer([]string{"store " + ann + " " + one + " 7"}, "account "+ann)[7:73]+" "+answer(nil, "keccak 0x6001")[3:],
		"code "+ann+" 0x", "ok",
		"code "+ann, "error 260",
		"destroy "+ann, "ok 1",
		"account "+ann, "ok none",
		"load "+ann+" "+one, "ok 0",
		"destroy "+ann, "ok 0",
		"destroy "+bob, "ok 1",
		"stateroot", "ok "+empty,
		"bump "+ann, "ok 1",
		"code "+bob+" 0x00", "ok",
		"account "+bob, "ok 0 0 "+empty+" "+answer(nil, "keccak 0x00")[3:],
		"bump", "error 260",
		"destroy", "error 260",
		"account", "error 260",
		"account "+ann+" "+bob, "error 260",
		"stateroot "+ann, "error 260",
	)
	// The trie of a storage holds 7 under the Keccak of the key.
	root := answer([]string{"put " + answer(nil, "keccak "+one)[3:] + " 0x07"}, "root")[3:]
	wantTold(t, "store "+ann+" "+one+" 7", "ok", "account "+ann, "ok 0 0 "+root+" "+nothing)
	// The state's trie holds the entry under the Keccak of the address.
	entry := "0xf8448005a0" + empty[2:] + "a0" + nothing[2:]
	state := answer([]string{"put " + answer(nil, "keccak "+ann)[3:] + " " + entry}, "root")
	wantTold(t, "mint "+ann+" 5", "ok", "stateroot", state, "root", "ok "+empty)
}

// P26.8: marks, and going back to them.
func TestMarks(t *testing.T) {
	wantTold(t,
		"back 0", "error 213",
		"mark", "ok 0",
		"mint "+ann+" 1", "ok",
		"mark", "ok 1",
		"bump "+ann, "ok 1",
		"store "+ann+" "+one+" 7", "ok",
		"mark", "ok 2",
		"destroy "+ann, "ok 1",
		"back 3", "error 213",
		"back 256", "error 213",
		"back 65537", "error 213",
		"back 2147483647", "error 213",
		"back 2147483648", "error 260",
		"back -1", "error 260",
		"back", "error 260",
		"back 0 0", "error 260",
		"mark x", "error 260",
		"account "+ann, "ok none",
		"back 2", "ok",
		"load "+ann+" "+one, "ok 7",
		"back 2", "error 213",
		"back 1", "ok",
		"account "+ann, "ok 0 1 "+empty+" "+nothing,
		"mark", "ok 1",
		"back 0", "ok",
		"account "+ann, "ok none",
		"back 1", "error 213",
		"back 0", "error 213",
		"mark", "ok 0",
	)
}

// P26.8: what is put in the trie is nothing to the state, and the other way round; marks are the state's alone.
func TestApartThings(t *testing.T) {
	wantTold(t,
		"mark", "ok 0",
		"put 0x01 0x02", "ok",
		"mint "+ann+" 1", "ok",
		"set nonce 5", "ok",
		"pool 1 1 21000 1", "ok",
		"back 0", "ok",
		"get 0x01", "ok 1 0x02",
		"account "+ann, "ok none",
		"ready 1", "ok 0",
		"signtx "+one, answer([]string{"set nonce 5"}, "signtx "+one),
	)
}

// stateLine tells one command on a state by chance.
func stateLine(row *chance.Row) string {
	who := func() string { return []string{ann, bob, second, strings.ToLower(second)}[row.Below(4)] }
	amount := func() string { return []string{"0", "1", "5", "7", widest}[row.Below(5)] }
	slot := func() string { return []string{one, two, nought}[row.Below(3)] }
	switch row.Below(16) {
	case 0, 1:
		return "mint " + who() + " " + amount()
	case 2:
		return "burn " + who() + " " + amount()
	case 3, 4:
		return "send " + who() + " " + who() + " " + amount()
	case 5:
		return "bump " + who()
	case 6, 7:
		return "store " + who() + " " + slot() + " " + amount()
	case 8:
		return "load " + who() + " " + slot()
	case 9:
		return "code " + who() + " " + told(row.Text(row.Below(3)))
	case 10, 11:
		return "account " + who()
	case 12:
		return "destroy " + who()
	case 13:
		return "mark"
	case 14:
		return "back " + num(uint64(row.Below(5)))
	}
	return "stateroot"
}

// P26.8: against the model.
func TestStateModel(t *testing.T) {
	row := chance.Row(2660)
	for range 60 {
		var lines []string
		for range 80 {
			lines = append(lines, stateLine(&row))
		}
		wantAnswers(t, lines, newModel().run(lines))
	}
}
