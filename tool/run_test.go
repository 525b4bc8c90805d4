package tool_test

import (
	"slices"
	"strings"
	"testing"

	"waybill/tool"
)

func wantRun(t *testing.T, script, want string) {
	t.Helper()
	if got := tool.Run(script); got != want {
		t.Errorf("Run(%.300q)\n got %.600q\nwant %.600q", script, got, want)
	}
}

// P26.2: lines, newlines at the ends, lines without an answer, blanks.
func TestLines(t *testing.T) {
	root := "ok " + empty + "\n"
	wantRun(t, "", "")
	wantRun(t, "\n", "")
	wantRun(t, "\n\n\n", "")
	wantRun(t, "   \n  ", "")
	wantRun(t, "root", root)
	wantRun(t, "root\n", root)
	wantRun(t, "\nroot", root)
	wantRun(t, "root\n\n   \nroot\n\n", root+root)
	wantRun(t, "  root  ", root)
	wantRun(t, "put 0x01 0x02\nget 0x01", "ok\nok 1 0x02\n")
	wantRun(t, "  put    0x01  0x02  \nget    0x01  ", "ok\nok 1 0x02\n")
	wantRun(t, "get 0x01\nput 0x01 0x02", "ok 0\nok\n")
	wantRun(t, "root\r\nroot", "error 260\n"+root)
	wantRun(t, "\r\nroot", "error 260\n"+root)
	wantRun(t, "\t", "error 260\n")
	wantRun(t, "root\troot", "error 260\n")
	wantRun(t, "\x00\nroot\x7f\nröot", "error 260\nerror 260\nerror 260\n")
}

// P26.2: notes.
func TestNotes(t *testing.T) {
	root := "ok " + empty + "\n"
	wantRun(t, "#", "")
	wantRun(t, "# put 0x01 0x02\nroot", root)
	wantRun(t, "#root\n##\n#\xff\x00\t\x7f ä\r\nroot", root)
	wantRun(t, " # a note behind a blank", "error 260\n")
	wantRun(t, " #", "error 260\n")
	wantRun(t, "root # a note", "error 260\n")
	wantRun(t, "root #", "error 260\n")
	wantRun(t, "abitype #", "error 220\n") // a word like others
	wantRun(t, "keccak 0x#", "error 260\n")
}

// P26.2: what a script begins with: it has nothing of another script.
func TestBegin(t *testing.T) {
	begin := []string{
		"root", "ok " + empty,
		"get 0x01", "ok 0",
		"stateroot", "ok " + empty,
		"account " + first, "ok none",
		"back 0", "error 213",
		"ready 0", "error 261",
		"set slot " + one, "error 260",
		"mark", "ok 0",
	}
	signed := answer(nil, "signtx "+one)
	begin = append(begin, "signtx "+one, signed, "tx "+strings.TrimPrefix(signed, "ok "), strings.Join([]string{
		"type 0", "chain none", "nonce 0", "gas 0", "value 0", "to 0x0000000000000000000000000000000000000000", "data 0x", "hash " + answer(nil, "keccak "+signed[3:])[3:], "sender " + first, "ok",
	}, "\n"))
	wantTold(t, begin...)
	tool.Run("put 0x01 0x02\nmint " + first + " 5\nmark\nnew 2\nset warm " + first + "\npool 1 1 1 1")
	wantTold(t, begin...)
}

// P26.2: first words that are none.
func TestUnknown(t *testing.T) {
	for _, word := range []string{"bogus", "Root", "ROOT", "roots", "roo", "r", "?", "0x", "parse", "run", "set-to", "keccak0x", "sha256", "create3", "nobody", "error", "ok", "K", "D.."} {
		wantRun(t, word, "error 260\n")
		wantRun(t, "root "+word, "error 260\n")
	}
	known := names()
	for _, name := range known {
		for _, other := range []string{strings.ToUpper(name), name[:len(name)-1], name + "x", "x" + name, strings.ToUpper(name[:1]) + name[1:]} {
			if !slices.Contains(known, other) {
				wantRun(t, other, "error 260\n")
				wantRun(t, other+" 0x", "error 260\n")
			}
		}
	}
}

// good are words of each form, so that a command takes them (what it answers is another matter).
func good(form string) []string {
	switch strings.TrimSuffix(form, "..") {
	case "D":
		return []string{"0x", "0x00", "0xAbCd", "0xc20102"}
	case "H":
		return []string{nought, one, "0x" + strings.Repeat("fF", 32)}
	case "K":
		return []string{nought, one, order, "0x" + strings.Repeat("Ab", 32)}
	case "S":
		return []string{one + one[2:], "0x" + strings.Repeat("00", 64)}
	case "A":
		return []string{first, strings.ToLower(first), "0x" + strings.ToUpper(first[2:]), "0x" + strings.Repeat("00", 20)}
	case "N":
		return []string{"0", "7", "18446744073709551616", widest}
	case "U":
		return []string{"0", "4294967296", "18446744073709551615"}
	case "I":
		return []string{"0", "1", "2147483647"}
	}
	return []string{"add", "to", "x", "~", "0"} // W
}

// wrong are words that are not of the form.
func wrong(form string) []string {
	all := []string{"-1", "+1", "0x0", "0xg0", "0X00", "00x", "x", "1.0", "1e3", "07", "0x+1", "nobody", "ä"}
	switch strings.TrimSuffix(form, "..") {
	case "D":
		return append(all, "0", "00", "0x000", "0xabc", "0x0g")
	case "H", "K":
		return append(all, "0x", "0", one[2:], one[:64], one[:65], one+"0", one+"00", first, "0X"+one[2:], one[:65]+"g")
	case "S":
		return append(all, "0x", one, one+one[2:64], one+one[2:65], one+one[2:]+"0", one+one[2:]+"00")
	case "A":
		return append(all, "0x", one, first[2:], first[:40], first[:41], first+"0", first+"00", "0x7e"+first[4:], "0x7f5F"+first[6:], "0X"+first[2:])
	case "N":
		return append(all, "0x", "0x01", "00", wide, widest+"0", one)
	case "U":
		return append(all, "0x", "00", "18446744073709551616", "18446744073709551615"+"0", widest)
	case "I":
		return append(all, "0x", "00", "2147483648", "4294967296", "18446744073709551615", widest)
	}
	return []string{"ä", "a\x7f", "\x01"} // W
}

// P26.2: of each command: the words of its forms are taken, with too few or too many it is error 260, with one of another form too, whichever of them it is.
func TestForms(t *testing.T) {
	for _, name := range names() {
		forms, _ := formsOf(name)
		rows := [][]string{nil}
		some := false
		for _, form := range forms {
			some = strings.HasSuffix(form, "..")
			var longer [][]string
			for _, row := range rows {
				for _, word := range good(form)[:2] {
					longer = append(longer, append(slices.Clone(row), word))
				}
			}
			rows = longer
		}
		words := rows[0]
		refused := func(words ...string) {
			t.Helper()
			line := strings.Join(append([]string{name}, words...), " ")
			wantRun(t, line, "error 260\n")
			wantRun(t, "pool 1 1 1 1\n"+line, "ok\nerror 260\n")
		}
		for i, form := range forms {
			for _, word := range wrong(form) {
				refused(append(append(slices.Clone(words[:i]), word), words[i+1:]...)...)
			}
			for _, word := range good(form) {
				row := append(append(slices.Clone(words[:i]), word), words[i+1:]...)
				line := strings.Join(append([]string{name}, row...), " ")
				if got := tool.Run(line); got == "error 260\n" && name != "set" && name != "calc" {
					t.Errorf("%s: %q", line, got)
				}
			}
			if i < len(words)-1 || !some {
				refused(words[:i]...)
			}
		}
		if !some {
			refused(append(slices.Clone(words), "0x")...)
			refused(append(slices.Clone(words), "1")...)
			refused(append(slices.Clone(words), "1", "0x")...)
			continue
		}
		form := forms[len(forms)-1]
		for _, more := range [][]string{nil, {good(form)[0]}, {good(form)[0], good(form)[1]}, slices.Repeat(good(form), 5)} {
			line := strings.Join(append(append([]string{name}, words[:len(forms)-1]...), more...), " ")
			if got := tool.Run(line); got == "error 260\n" {
				t.Errorf("%s: %q", line, got)
			}
			for _, bad := range wrong(form) {
				refused(append(append(slices.Clone(words[:len(forms)-1]), more...), bad)...)
			}
		}
	}
}

// P26.2: with too few or too many words, or one of another form, nothing is done.
func TestNothingDone(t *testing.T) {
	wantTold(t,
		"put 0x01 0x02 0x03", "error 260",
		"put 0x01", "error 260",
		"put 0x01 0x0", "error 260",
		"root", "ok "+empty,
		"put 0x01 0x02", "ok",
		"del 0x01 0x", "error 260",
		"del", "error 260",
		"get 0x01", "ok 1 0x02",
		"mint "+first+" 5 5", "error 260",
		"mint "+first, "error 260",
		"mint "+first+" 5.", "error 260",
		"account "+first, "ok none",
		"mark 0", "error 260",
		"back 0", "error 213",
		"mint "+first+" 5", "ok",
		"send "+first+" "+second, "error 260",
		"send "+first+" "+second+" 5 x", "error 260",
		"bump", "error 260",
		"bump "+first+" 1", "error 260",
		"destroy "+first+" 1", "error 260",
		"code "+first+" 0x1", "error 260",
		"account "+first, "ok 0 5 "+empty+" "+nothing,
		"mark", "ok 0",
		"back 0 0", "error 260",
		"back -0", "error 260",
		"back 0", "ok",
		"pool 1 1 1", "error 260",
		"pool 1 1 1 1 1", "error 260",
		"ready 1", "error 261",
		"pool 1 10 21000 1", "ok",
		"pool 1 10 21000 2147483648", "error 260",
		"ready 1", "ok 0",
	)
}

// P26.2: with too many words, or one that is wrong, the draft and the pool stay too.
func TestNothingDoneToDraft(t *testing.T) {
	build := []string{"new 2", "set chain 1", "set gas 21000", "set cap 20", "set to " + first}
	raw := strings.TrimPrefix(answer(build, "signtx "+one), "ok ")
	for _, line := range []string{
		"new 3 0", "new", "new x", "new 5", "new 18446744073709551615", "set", "set gas", "set gas 1 2", "set gas -1", "set gas 0x1", "set gas 18446744073709551616", "set cap " + wide, "set cap x",
		"set to 0x00", "set to nobody nobody", "set to Nobody", "set to 0x7e" + first[4:], "set data 0x0", "set data", "set blob 0x00", "set warm 0x00", "set slot " + one, "set type 1", "set Gas 1", "set bogus 1", "set v 1", "set create 1", "set to",
		"signtx", "signtx " + nought, "signtx " + order, "signtx 0x01", "signtx " + one + " " + one,
	} {
		if got := answer(build, line); !strings.HasPrefix(got, "error ") {
			t.Errorf("%s: %q", line, got)
		}
		if got := answer(append(slices.Clone(build), line), "signtx "+one); got != "ok "+raw {
			t.Errorf("behind %s: %q", line, got)
		}
	}
	hash := answer(nil, "keccak "+raw)[3:]
	full := append(slices.Clone(build), "pool 1 10 30000000 2", "fund "+first+" 0 1000000000", "submit "+raw)
	want := "ok " + hash + "\n" + hash + " " + first + " 0 0\nok 1\n"
	for _, line := range []string{"drop", "drop 0x00", "drop " + hash + " " + hash, "drop " + one, "mined " + hash + " x", "fund " + first + " 5", "fund " + first + " 5 x", "poolbase x", "poolbase 21 1", "submit", "submit " + raw + " " + raw, "pool x 1 1 1", "pool 1 1 1 0", "pool 9223372036854775808 1 1 1", "pool 1 1 1 4097"} {
		script := strings.Join(append(slices.Clone(full), line, "ready 30000000"), "\n")
		got := tool.Run(script)
		if _, tail, _ := strings.Cut(got, "ok "+hash+"\n"); !strings.HasPrefix(tail, "error ") || !strings.HasSuffix(got, "\n"+strings.SplitN(want, "\n", 2)[1]) {
			t.Errorf("%s: %q", line, got)
		}
	}
}
