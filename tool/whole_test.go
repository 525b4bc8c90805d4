package tool_test

import (
	"slices"
	"strings"
	"testing"

	"waybill/chance"
	"waybill/tool"
)

// maker makes scripts by chance; it plays them with the model, so that lines can speak of what is there.
type maker struct {
	row    *chance.Row
	m      *model
	raws   []string // transactions that a pool may take
	hashes []string
	papers []string
	lines  []string
	told   []string
}

func newMaker(row *chance.Row) *maker {
	k := &maker{row: row, m: newModel(), papers: papers(row)}
	k.raws, k.hashes = offers()
	return k
}

// add puts a line behind the others, and tells its answer.
func (k *maker) add(line string) string {
	answer := k.m.line(line)
	k.lines, k.told = append(k.lines, line), append(k.told, answer)
	return answer
}

func (k *maker) one(words ...string) string { return words[k.row.Below(len(words))] }

// word tells a word of a form, mostly one that means something to the script.
func (k *maker) word(form string) string {
	switch form {
	case "D":
		switch k.row.Below(4) {
		case 0:
			return k.one(k.papers...)
		case 1:
			return k.one(k.raws...)
		}
		return k.one("0x", "0x01", "0x0102", "0x0103", "0xC20102", told(k.row.Text(k.row.Below(40))))
	case "H":
		return k.one(nought, one, two, empty, toldHash(k.m.trie.Root()), k.one(k.hashes...))
	case "K":
		return k.one(nought, one, two, order, told(k.row.Text(32)))
	case "S":
		if k.row.Below(2) == 0 {
			return told(k.row.Text(64))
		}
		return strings.TrimPrefix(k.m.line("sign "+one+" "+nothing), "ok ")
	case "A":
		return k.one(first, second, fromThree, bob, strings.ToLower(first), told(k.row.Text(20)))
	case "N":
		return k.one("0", "1", "5", "20", "1000000000", widest, sum(k.row.Number()))
	case "U":
		return k.one("0", "1", "2", "3", "21000", "30000000", num(k.row.Next()>>k.row.Below(65)))
	case "I":
		return k.one("0", "1", "2", "5", "64", "65", "2147483647")
	}
	return k.one("add", "sub", "div", "exp", "uint", "f(uint)", "g()", "(int,bool)[]", "x")
}

// set tells a line that sets a field of the draft.
func (k *maker) set() string {
	fields := []string{"chain U", "nonce U", "gas U", "price N", "tip N", "cap N", "value N", "blobcap N", "to A", "to nobody", "data D", "blob H", "warm A", "slot H", "bogus W"}
	words := strings.Fields(k.one(fields...))
	if words[1] != "nobody" {
		words[1] = k.word(words[1])
	}
	return "set " + strings.Join(words, " ")
}

// line tells a line by chance, seldom one that is wrong.
func (k *maker) line() string {
	usage := strings.Fields(k.one(strings.Split(usages, "\n")...))
	if usage[0] == "set" {
		return k.set()
	}
	words := usage[:1]
	for _, form := range usage[1:] {
		if single, some := strings.CutSuffix(form, ".."); some {
			for range k.row.Below(4) {
				words = append(words, k.word(single))
			}
			continue
		}
		words = append(words, k.word(form))
	}
	switch k.row.Below(30) {
	case 0:
		words = words[:len(words)-1]
	case 1:
		words = append(words, k.one("0x", "0", "x"))
	case 2:
		words[k.row.Below(len(words))] = k.one("x", "0x0", "-1", "0X00", "\x01", "é", "#", "00")
	case 3:
		words[0] = k.one("#", "#"+words[0], " #", strings.ToUpper(words[0]))
	case 4:
		return strings.Join(append([]string{" "}, words...), "  ") + "   "
	case 5:
		return k.one("", " ", "# nothing", "\r", "\t")
	}
	return strings.Join(words, " ")
}

// prove adds a proof and the lines that look at it.
func (k *maker) prove() {
	key := k.word("D")
	nodes := strings.Split(k.add("prove "+key), "\n")
	k.add(strings.Join(append([]string{"check", toldHash(k.m.trie.Root()), key}, nodes[:len(nodes)-1]...), " "))
}

// sign adds a draft that is signed, and looks at it.
func (k *maker) sign() {
	k.add("new " + num(uint64(k.row.Below(6))))
	for range k.row.Below(8) {
		k.add(k.set())
	}
	if raw, ok := strings.CutPrefix(k.add("signtx "+k.word("K")), "ok "); ok {
		k.add("tx " + raw)
		k.papers = append(k.papers, raw)
	}
}

// trade adds a pool, senders that can pay, and what one of them sends.
func (k *maker) trade() {
	if k.m.pool == nil {
		k.add("pool 1 5 30000000 " + num(uint64(1+k.row.Below(8))))
	}
	for _, who := range []string{first, second, fromThree} {
		k.add("fund " + who + " 0 1000000000")
	}
	for range 5 {
		k.add("submit " + k.one(k.raws...))
	}
	k.add("ready 100000")
	if all := k.m.pool.Waiting(); len(all) > 0 {
		k.add(k.one("drop ", "mined ") + toldHash(all[k.row.Below(len(all))].Hash))
	}
}

func (k *maker) script(n int) {
	for len(k.lines) < n {
		switch k.row.Below(12) {
		case 0:
			k.prove()
		case 1:
			k.sign()
		case 2, 3:
			k.add(stateLine(k.row))
		case 4, 5:
			k.add(poolLine(k.row, k.raws, k.hashes))
		case 6:
			k.add("put " + k.one("0x", "0x01", "0x0102", "0x0103", "0x02") + " " + told(k.row.Text(k.row.Below(40))))
		case 7:
			if k.row.Below(4) == 0 {
				k.trade()
			}
			paper := k.one(k.papers...)
			for _, name := range []string{"receipt", "header", "block", "whole", "kind", "tx"} {
				k.add(name + " " + paper)
			}
		default:
			k.add(k.line())
		}
	}
}

// P26.2 to P26.10, P0.1: whole scripts of all commands, against the model.
func TestScripts(t *testing.T) {
	row := chance.Row(2680)
	heard := map[string]int{}
	for range 40 {
		k := newMaker(&row)
		k.script(150)
		wantAnswers(t, k.lines, k.told)
		for i, line := range k.lines {
			if words := strings.Fields(line); len(words) > 0 && !strings.HasPrefix(k.told[i], "error") {
				heard[words[0]]++
			}
		}
	}
	for _, name := range names() {
		if heard[name] == 0 && name != "child" { // two papers by chance are seldom parent and child
			t.Errorf("%s was never taken", name)
		}
	}
}

// P26.2: what is refused leaves everything as it was: without the lines that are refused, or tell nothing, a script tells the rest of its answers.
func TestRefused(t *testing.T) {
	row := chance.Row(2681)
	for range 15 {
		k := newMaker(&row)
		k.script(120)
		var lines, answers []string
		for i, answer := range k.told {
			if answer != "" && !strings.HasPrefix(answer, "error") {
				lines, answers = append(lines, k.lines[i]), append(answers, answer)
			}
		}
		wantAnswers(t, lines, answers)
	}
}

// P26.11: what is told of a script begins with what is told of its beginnings that end ahead of a newline.
func TestBeginnings(t *testing.T) {
	row := chance.Row(2682)
	for range 8 {
		k := newMaker(&row)
		k.script(60)
		script := strings.Join(k.lines, "\n") + strings.Repeat("\n", row.Below(3))
		all := tool.Run(script)
		for i := range len(script) {
			if script[i] != '\n' {
				continue
			}
			if part := tool.Run(script[:i]); !strings.HasPrefix(all, part) {
				t.Fatalf("of %d bytes of %q\n%q\nof all\n%q", i, script, part, all)
			}
		}
	}
}

// P26.2, P0.1: any bytes are a script: each line that is no note, and has a word, is a command or error 260.
func TestAnyBytes(t *testing.T) {
	row := chance.Row(2683)
	for range 300 {
		script := row.Text(row.Below(300))
		for i := range script {
			switch row.Below(6) {
			case 0:
				script[i] = '\n'
			case 1:
				script[i] = "# \r\t\x00~"[row.Below(6)]
			}
		}
		want := 0
		for _, line := range strings.Split(string(script), "\n") {
			if !strings.HasPrefix(line, "#") && strings.Trim(line, " ") != "" {
				want++
			}
		}
		if got := tool.Run(string(script)); got != strings.Repeat("error 260\n", want) {
			t.Fatalf("%q: %q", script, got)
		}
	}
}

// P0.1: a script of very many lines.
func TestManyLines(t *testing.T) {
	wantRun(t, strings.Repeat("put 0x01 0x02\ndel 0x01\n\n#\nx\n", 50000), strings.Repeat("ok\nok 1\nerror 260\n", 50000))
	wantRun(t, strings.Repeat("\n", 1000000), "")
	lines := slices.Repeat([]string{"mark", "mint " + first + " 1", "back 0"}, 3000)
	wantRun(t, strings.Join(lines, "\n"), strings.Repeat("ok 0\nok\nok\n", 3000))
}
