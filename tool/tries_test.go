package tool_test

import (
	"strings"
	"testing"

	"waybill/chance"
	"waybill/rlp"
)

// P26.5: trees of texts, and texts that are none.
func TestTree(t *testing.T) {
	long := strings.Repeat("ab", 60)
	wantTold(t,
		"rlp 0x00", "ok 0x00",
		"rlp 0x7f", "ok 0x7f",
		"rlp 0x80", "ok 0x",
		"rlp 0x8180", "ok 0x80",
		"rlp 0x83616263", "ok 0x616263",
		"rlp 0xb83c"+long, "ok 0x"+long,
		"rlp 0xc0", "ok []",
		"rlp 0xc1c0", "ok [[]]",
		"rlp 0xc20102", "ok [0x01 0x02]",
		"rlp 0xc180", "ok [0x]",
		"rlp 0xc7c0c1c0c3c0c1c0", "ok [[] [[]] [[] [[]]]]", // the numbers 0 to 3 as sets
		"rlp 0xc88363617483646f67", "ok [0x636174 0x646f67]",
		"rlp 0xc60183636174c0", "ok [0x01 0x636174 []]",
		"rlp 0xC6C20102C20304", "ok [[0x01 0x02] [0x03 0x04]]",
		"rlp 0xc3018101", "error 71",
		"rlp 0x", "error 70",
		"rlp 0xc2", "error 70",
		"rlp 0xb80101", "error 72",
		"rlp 0x0000", "error 73",
		"rlp 0xc0c0", "error 73",
		"rlp 0xc0 0xc0", "error 260",
		"rlp", "error 260",
	)
}

// P26.5: lists as deep within one another as rlp reads them, and one deeper; a text as long as may be.
func TestDeepTree(t *testing.T) {
	deep := []byte{0xc0}
	for range 1023 {
		deep, _ = rlp.Join(deep)
	}
	wantRun(t, "rlp "+told(deep), "ok "+strings.Repeat("[", 1024)+strings.Repeat("]", 1024)+"\n")
	deep, _ = rlp.Join(deep)
	wantRun(t, "rlp "+told(deep), "error 74\n")
	long := "fffffc" + strings.Repeat("00", maxInput-4)
	wantRun(t, "rlp 0xba"+long, "ok 0x"+long[6:]+"\n")
	wide := strings.Repeat("80", 100000)
	wantRun(t, "rlp 0xfa0186a0"+wide, "ok ["+strings.Repeat("0x ", 99999)+"0x]\n")
}

// P26.5: what is put, found and taken away; the roots that are known from elsewhere.
func TestTrie(t *testing.T) {
	key64, key65 := "0x"+strings.Repeat("ab", 64), "0x"+strings.Repeat("ab", 65)
	wantTold(t,
		"root", "ok "+empty,
		"get 0x", "ok 0",
		"del 0x", "ok 0",
		"put 0x 0x78", "ok",
		"root", "ok 0xf5cfb05ef07e03e43d77cbb7d0e5ce3d4d1f2cf359c14db3aff42deff5f67862",
		"get 0x", "ok 1 0x78",
		"del 0x", "ok 1",
		"del 0x", "ok 0",
		"root", "ok "+empty,
		"put 0x61 0x", "error 121",
		"get 0x61", "ok 0",
		"put 0x61 0x78", "ok",
		"put 0x61 0x", "error 121",
		"get 0x61", "ok 1 0x78",
		"root", "ok 0x6fa762f54f5feb347453b423be702ce32d6024261434ba01c74edb625b5090a4",
		"put 0x61 0x79", "ok",
		"get 0x61", "ok 1 0x79",
		"del 0x61", "ok 1",
		"put "+key65+" 0x01", "error 120",
		"put "+key65+" 0x", "error 120",
		"get "+key65, "ok 0",
		"del "+key65, "ok 0",
		"put "+key64+" 0x01", "ok",
		"get "+key64, "ok 1 0x01",
		"del "+key64, "ok 1",
		"root", "ok "+empty,
		"put 0x646f 0x76657262", "ok",
		"put 0x646f67 0x7075707079", "ok",
		"put 0x646f6765 0x636f696e", "ok",
		"put 0x686f727365 0x7374616c6c696f6e", "ok",
		"root", "ok 0x5991bb8c6514148a29db676a14ac506cd2cd5775ace63c30a4fe457715e9ac84",
		"put 0x646f64 0x01", "ok",
		"del 0x646f64", "ok 1",
		"root", "ok 0x5991bb8c6514148a29db676a14ac506cd2cd5775ace63c30a4fe457715e9ac84",
		"get 0x646F67", "ok 1 0x7075707079",
		"get 0x64", "ok 0",
	)
}

// P26.5: proofs made and checked.
func TestProofs(t *testing.T) {
	node := "0xc58320123476"
	root := answer(nil, "keccak "+node)[3:]
	key65 := "0x" + strings.Repeat("ab", 65)
	wantTold(t,
		"prove 0x1234", "ok 0",
		"check "+empty+" 0x1234 0x80", "error 133",
		"put 0x1234 0x76", "ok",
		"root", "ok "+root,
		"prove 0x1234", node+"\nok 1",
		"prove 0x77", node+"\nok 1",
		"prove 0x", node+"\nok 1",
		"prove "+key65, "error 120",
		"check "+root+" 0x1234 "+node, "ok 1 0x76",
		"check "+root+" 0x1235 "+node, "ok 0",
		"check "+root+" 0x12 "+node, "ok 0",
		"check "+root+" 0x1234", "error 130",
		"check "+empty+" 0x1234", "ok 0",
		"check "+root+" 0x1234 0xc58320123477", "error 131",
		"check "+root+" 0x1234 "+node+" "+node, "error 133",
		"check "+answer(nil, "keccak 0xc22080")[3:]+" 0x 0xc22080", "error 132",
		"check "+root+" "+key65+" "+node, "error 120",
		"check 0x00 0x1234 "+node, "error 260",
		"check "+root, "error 260",
		"check", "error 260",
		"root", "ok "+root, // proofs change nothing
		"get 0x1234", "ok 1 0x76",
	)
	long := "0x" + strings.Repeat("61", 51)
	ahead := []string{"put 0x1234 " + long, "put 0x1235 0x7a"}
	nodes := strings.Split(answer(ahead, "prove 0x1234"), "\n")
	if len(nodes) != 4 || nodes[3] != "ok 3" {
		t.Fatalf("prove: %q", nodes)
	}
	whole := answer(ahead, "root")[3:]
	for line, want := range map[string]string{
		"check " + whole + " 0x1234 " + strings.Join(nodes[:3], " "):               "ok 1 " + long,
		"check " + whole + " 0x1234 " + strings.Join(nodes[:2], " "):               "error 130",
		"check " + whole + " 0x1234 " + nodes[1] + " " + nodes[0] + " " + nodes[2]: "error 131",
		"check " + whole + " 0x1235 " + strings.Join(nodes[:3], " "):               "error 133",
		"check " + whole + " 0x1235 " + strings.Join(nodes[:2], " "):               "ok 1 0x7a",
		"prove 0x1235": strings.Join(nodes[:2], "\n") + "\nok 2",
		"prove 0x77":   nodes[0] + "\nok 1",
	} {
		if got := answer(ahead, line); got != want {
			t.Errorf("%s: %q, want %q", line, got, want)
		}
	}
}

// P26.5: the roots of lists.
func TestListRoot(t *testing.T) {
	wantTold(t,
		"listroot", "ok "+empty,
		"listroot 0x61", "ok 0x0934a6a4a84a455b46bf2e427c90fbc07dbce3fd6fe5b9213cc6cd7c8030792c",
		"listroot 0x61 0x62", "ok 0x60bf70c11e7040276c82c8d38090aae63edb63f8a3f232bfd652a454ace386b1",
		"listroot 0x62 0x61", newModel().line("listroot 0x62 0x61"),
		"listroot 0x61 0x", "error 121",
		"listroot 0x", "error 121",
		"root", "ok "+empty,
		"listroot"+strings.Repeat(" 0x01", 65536), "error 1",
		"listroot"+strings.Repeat(" 0x01", 65535), newModel().line("listroot"+strings.Repeat(" 0x01", 65535)),
	)
}

// P26.5, P0.7: a value as long as may be is kept and told; the node that has it is too long for a proof.
func TestLongValue(t *testing.T) {
	most := "0x" + strings.Repeat("61", maxInput)
	wantTold(t, "put 0x01 "+most, "ok", "get 0x01", "ok 1 "+most, "prove 0x01", "error 2", "put 0x01 "+most+"00", "error 260", "get 0x02", "ok 0")
}

// P26.5: against the model: keys by chance, with proofs of what is there and what isn't, whole and broken.
func TestTriesModel(t *testing.T) {
	row := chance.Row(2630)
	for range 40 {
		var lines []string
		m := newModel()
		say := func(line string) string {
			lines = append(lines, line)
			return m.line(line)
		}
		for range 60 {
			key := told(row.Text(row.Below(4)))
			if len(key) > 4 {
				key = key[:4] + "0" + key[5:] // so that keys meet
			}
			switch row.Below(6) {
			case 0, 1, 2:
				say("put " + key + " " + told(row.Text(row.Below(50))))
			case 3:
				say("del " + key)
			case 4:
				say("get " + key)
			}
			root := say("root")[3:]
			nodes := strings.Split(say("prove "+key), "\n")
			nodes = nodes[:len(nodes)-1]
			if row.Below(4) == 0 && len(nodes) > 0 {
				nodes = nodes[row.Below(len(nodes)):]
			}
			say(strings.Join(append([]string{"check", root, key}, nodes...), " "))
			say("rlp " + told(row.Text(row.Below(4))))
			say("listroot " + strings.Join(nodes, " "))
		}
		wantAnswers(t, lines, newModel().run(lines))
	}
}
