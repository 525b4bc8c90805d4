package tool_test

import (
	"slices"
	"strings"
	"testing"

	"waybill/chance"
	"waybill/tool"
)

func wantParse(t *testing.T, line string, want []string, ok bool) {
	t.Helper()
	got, gotOK := tool.Parse(line)
	if gotOK != ok || !slices.Equal(got, want) || (len(got) == 0 && got != nil) {
		t.Errorf("Parse(%.200q) = %.200q, %v, want %.200q, %v", line, got, gotOK, want, ok)
	}
}

// P26.1: words, blanks, lines without words.
func TestParse(t *testing.T) {
	wantParse(t, "", nil, true)
	wantParse(t, " ", nil, true)
	wantParse(t, strings.Repeat(" ", 1000), nil, true)
	wantParse(t, "a", []string{"a"}, true)
	wantParse(t, " a", []string{"a"}, true)
	wantParse(t, "a ", []string{"a"}, true)
	wantParse(t, "a b", []string{"a", "b"}, true)
	wantParse(t, "  a   bc    d  ", []string{"a", "bc", "d"}, true)
	wantParse(t, "b a b", []string{"b", "a", "b"}, true)
	wantParse(t, "# a", []string{"#", "a"}, true)
	wantParse(t, "!~ \"'\\ [0x00]", []string{"!~", "\"'\\", "[0x00]"}, true)
	for _, bad := range []string{"\n", "a\n", "\na", "a\nb", "a\tb", "a b\r", "\x00", "a b c\x1f", "\x7f", "ä", "a\u00a0b", "\u2003", "\xff", " \t", "\v \f"} {
		wantParse(t, bad, nil, false)
	}
}

// P26.1: every byte alone, ahead of a word, behind it, within it, and between two.
func TestBytesOfWords(t *testing.T) {
	for i := range 256 {
		b := string([]byte{byte(i)})
		if b == " " {
			continue
		}
		good := i >= 33 && i <= 126
		for _, line := range []string{b, b + "word", "word" + b, "wo" + b + "rd", "some " + b + " words", "  " + b + "  "} {
			want := strings.Fields(line)
			if !good {
				want = nil
			}
			wantParse(t, line, want, good)
		}
	}
}

// P26.1: against the model: all texts of up to six bytes of some, and longer ones by chance.
func TestParseModel(t *testing.T) {
	check := func(line string) {
		want, ok := modelParse(line)
		wantParse(t, line, want, ok)
	}
	bytes := []string{" ", "a", "~", "\t", "\x80"}
	texts := []string{""}
	for range 6 {
		var longer []string
		for _, text := range texts {
			for _, b := range bytes {
				longer = append(longer, text+b)
			}
		}
		for _, text := range longer {
			check(text)
		}
		texts = longer
	}
	row := chance.Row(2600)
	for range 3000 {
		line := row.Text(row.Below(60))
		for i := range line {
			if row.Below(20) > 0 || line[i] == 0 {
				line[i] = " !az~#0"[row.Below(7)]
			}
		}
		check(string(line))
	}
	long := strings.Repeat("word ", 100000)
	check(long)
	check(long + "\x1f")
	check(strings.Repeat("w", 5000000))
}
