package tool_test

import (
	"slices"
	"strings"
	"sync"
	"testing"

	"waybill/chance"
	"waybill/tool"
)

// P0.3, P26.1: a list of words is the caller's, its room beyond the end too.
func TestWordsApart(t *testing.T) {
	line := "put 0x01 0x02 0x03 0x04"
	want := strings.Fields(line)
	a, _ := tool.Parse(line)
	b, _ := tool.Parse(line)
	whole := a[:cap(a)]
	for i := range whole {
		whole[i] = "spoilt"
	}
	c, ok := tool.Parse(line)
	if !slices.Equal(b, want) || !slices.Equal(c, want) || !ok {
		t.Errorf("%q, %q", b, c)
	}
}

// P0.4, P26.1: where there are no words there is no list, or an empty one.
func TestNoWords(t *testing.T) {
	for _, line := range []string{"", " ", "\x01", "a \x01"} {
		if words, _ := tool.Parse(line); len(words) != 0 {
			t.Errorf("%q: %q", line, words)
		}
	}
}

// P0.6: the same script is told the same again, whatever other scripts do meanwhile.
func TestSameAgain(t *testing.T) {
	row := chance.Row(2690)
	var scripts, wants []string
	for range 6 {
		k := newMaker(&row)
		k.script(50)
		scripts, wants = append(scripts, strings.Join(k.lines, "\n")), append(wants, whole(k.told))
	}
	var all sync.WaitGroup
	for i := range 24 {
		all.Go(func() {
			n := i % len(scripts)
			if got := tool.Run(scripts[n]); got != wants[n] {
				t.Errorf("script %d: %q, want %q", n, got, wants[n])
			}
			words, ok := tool.Parse("  a b  ")
			if !ok || !slices.Equal(words, []string{"a", "b"}) {
				t.Errorf("Parse: %q, %v", words, ok)
			}
		})
	}
	all.Wait()
}
