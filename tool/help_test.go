package tool_test

import (
	"encoding/hex"
	"math/big"
	"regexp"
	"strings"
	"testing"

	"waybill/api"
	"waybill/hexa"
	"waybill/keccak"
	"waybill/tool"
)

const maxInput = 16777216

// Words that several tests have. Those of keys' addresses are known from elsewhere.
const (
	one     = "0x0000000000000000000000000000000000000000000000000000000000000001"
	two     = "0x0000000000000000000000000000000000000000000000000000000000000002"
	nought  = "0x0000000000000000000000000000000000000000000000000000000000000000"
	order   = "0xfffffffffffffffffffffffffffffffebaaedce6af48a03bbfd25e8cd0364141" // n
	last    = "0xfffffffffffffffffffffffffffffffebaaedce6af48a03bbfd25e8cd0364140" // n - 1
	first   = "0x7E5F4552091A69125d5DfCb7b8C2659029395Bdf"                         // of the key 1
	second  = "0x2B5AD5c4795c026514f8317c7a215E218DcCD6cF"                         // of the key 2
	empty   = "0x56e81f171bcc55a6ff8345e692c0f86e5b48e01b996cadc001622fb5e363b421" // the root of nothing
	nothing = "0xc5d2460186f7233c927e7db2dcc703c0e500b653ca82273b7bfad8045d85a470" // the Keccak of nothing
	wide    = "115792089237316195423570985008687907853269984665640564039457584007913129639936"
	widest  = "115792089237316195423570985008687907853269984665640564039457584007913129639935"
)

// digits reads bytes in hexadecimal digits, 0x ahead of them or not.
func digits(s string) []byte {
	b, err := hex.DecodeString(strings.TrimPrefix(s, "0x"))
	if err != nil {
		panic("not digits: " + s)
	}
	return b
}

// told writes bytes as the chapter does.
func told(b []byte) string { return "0x" + hex.EncodeToString(b) }

func toldHash(h api.Hash) string { return told(h[:]) }

func bigOf(x api.U256) *big.Int {
	n := new(big.Int)
	for i := len(x) - 1; i >= 0; i-- {
		n.Lsh(n, 64).Or(n, new(big.Int).SetUint64(x[i]))
	}
	return n
}

func numberOf(n *big.Int) (x api.U256) {
	for i := range x {
		x[i] = new(big.Int).Rsh(n, uint(64*i)).Uint64() // its lowest 64 bits
	}
	return x
}

// toldCheck writes an address by EIP-55's words.
func toldCheck(a api.Address) string {
	small := hex.EncodeToString(a[:])
	h := keccak.Sum([]byte(small))
	out := []byte("0x" + small)
	for i := range small {
		half := h[i/2] >> 4
		if i%2 == 1 {
			half = h[i/2] & 15
		}
		if half >= 8 && small[i] >= 'a' {
			out[2+i] -= 'a' - 'A'
		}
	}
	return string(out)
}

// The forms of the chapter's table.

var (
	hexDigits  = regexp.MustCompile(`^0x([0-9a-fA-F]{2})*$`)
	decDigits  = regexp.MustCompile(`^(0|[1-9][0-9]*)$`)
	digestText = regexp.MustCompile(`^0x[0-9a-fA-F]{64}$`)
	holderText = regexp.MustCompile(`^0x[0-9a-fA-F]{40}$`)
)

func isNumber(w string, bits uint) bool {
	if !decDigits.MatchString(w) {
		return false
	}
	n, _ := new(big.Int).SetString(w, 10)
	return n.Cmp(new(big.Int).Lsh(big.NewInt(1), bits)) < 0
}

func isAddress(w string) bool {
	if !holderText.MatchString(w) {
		return false
	}
	tail := w[2:]
	return tail == strings.ToLower(tail) || tail == strings.ToUpper(tail) || w == toldCheck(api.Address(digits(w)))
}

// isOf tells whether a word is of a form.
func isOf(form, w string) bool {
	switch form {
	case "D":
		return len(w) <= 2+2*maxInput && hexDigits.MatchString(w)
	case "H", "K":
		return digestText.MatchString(w)
	case "S":
		return hexDigits.MatchString(w) && len(w) == 2+2*64
	case "A":
		return isAddress(w)
	case "N":
		return isNumber(w, 256)
	case "U":
		return isNumber(w, 64)
	case "I":
		return isNumber(w, 31)
	}
	return form == "W"
}

// areOf tells whether words are of the forms that stand in a row of the chapter, as D.. too.
func areOf(forms, words []string) bool {
	if len(forms) == 0 {
		return len(words) == 0
	}
	if form, some := strings.CutSuffix(forms[0], ".."); some { // it is the last one in all rows
		for _, w := range words {
			if !isOf(form, w) {
				return false
			}
		}
		return true
	}
	return len(words) > 0 && isOf(forms[0], words[0]) && areOf(forms[1:], words[1:])
}

// usages are the commands as the chapter writes them.
const usages = `keccak D..
sha3 D..
sha D..
hmac D D..
calc W N N
key K
sign K H
recover H S
personal K D
spoke D S
address A
create A U
create2 A H D
rlp D
put D D
del D
get D
root
prove D
check H D D..
listroot D..
new U
set W W
signtx K
tx D
senders I D..
fees D N
base N U U
blobbase U U
receipt D
kind D
header D
child D D
block D
whole D
mint A N
burn A N
send A A N
bump A
store A H N
load A H
code A D
account A
destroy A
mark
back I
stateroot
pool U N U I
fund A U N
poolbase N
submit D
ready U
drop H
mined H..
abitype W
selector W
topic W`

// formsOf tells the forms of a command's words, and whether there is such a command.
func formsOf(name string) ([]string, bool) {
	for usage := range strings.Lines(usages) {
		if words := strings.Fields(usage); words[0] == name {
			return words[1:], true
		}
	}
	return nil, false
}

func names() []string {
	var all []string
	for usage := range strings.Lines(usages) {
		all = append(all, strings.Fields(usage)[0])
	}
	return all
}

// wantTold plays a script of lines, each with its answer behind it (of several lines, perhaps; "" if it has none).
func wantTold(t *testing.T, pairs ...string) {
	t.Helper()
	var lines, answers []string
	for i := 0; i < len(pairs); i += 2 {
		lines, answers = append(lines, pairs[i]), append(answers, pairs[i+1])
	}
	wantAnswers(t, lines, answers)
}

func wantAnswers(t *testing.T, lines, answers []string) {
	t.Helper()
	if tool.Run(strings.Join(lines, "\n")) == whole(answers) {
		return
	}
	// The first beginning of the script that goes wrong tells which line it is.
	for n := range lines {
		got, want := tool.Run(strings.Join(lines[:n+1], "\n")), whole(answers[:n+1])
		if got != want {
			ahead := len(whole(answers[:n]))
			t.Fatalf("line %d: %.300s\n got %.900q\nwant %.900q", n, lines[n], got[min(ahead, len(got)):], want[ahead:])
		}
	}
	t.Fatal("a script tells something else than its beginnings")
}

// whole puts the answers of lines together.
func whole(answers []string) string {
	var b strings.Builder
	for _, a := range answers {
		if a != "" {
			b.WriteString(a + "\n")
		}
	}
	return b.String()
}

// answer tells what one line is answered, behind some others.
func answer(ahead []string, line string) string {
	before := tool.Run(strings.Join(ahead, "\n"))
	all := tool.Run(strings.Join(append(append([]string{}, ahead...), line), "\n"))
	return strings.TrimSuffix(strings.TrimPrefix(all, before), "\n")
}

// The helpers themselves.
func TestHelpers(t *testing.T) {
	for word, forms := range map[string]string{
		"0x": "DW", "0x00": "DW", "0xAb": "DW", "0x0": "W", "0xg0": "W", "0X00": "W", "": "W", "0": "NUIW", "00": "W", "7": "NUIW", "-1": "W", "+1": "W",
		"2147483647": "NUIW", "2147483648": "NUW", "18446744073709551615": "NUW", "18446744073709551616": "NW", widest: "NW", wide: "W",
		one: "DHKW", strings.ToUpper(one): "W", one[:65]: "W", one + "00": "DW", one + one[2:]: "DSW", one + one[2:] + "00": "DW", one + one[2:65]: "W",
		first: "DAW", strings.ToLower(first): "DAW", "0x" + strings.ToUpper(first[2:]): "DAW", "0x7e" + first[4:]: "DW", first[:41]: "W", first + "0": "W",
	} {
		for _, form := range strings.Split("DHKSANUIW", "") {
			if isOf(form, word) != strings.Contains(forms, form) {
				t.Errorf("%s is of the form %s: %v", word, form, isOf(form, word))
			}
		}
	}
	if !areOf([]string{"D", "N.."}, []string{"0x"}) || !areOf([]string{"N.."}, []string{"1", "2"}) || areOf([]string{"N.."}, []string{"1", "x"}) || areOf([]string{"D", "N.."}, nil) || areOf(nil, []string{"x"}) || !areOf(nil, nil) {
		t.Error("areOf")
	}
	if len(names()) != 57 {
		t.Errorf("%d commands", len(names()))
	}
	a, _ := hexa.ParseAddress(first)
	if toldCheck(a) != first || bigOf(numberOf(bigOf(api.U256{1, 2, 3, 4}))).Cmp(bigOf(api.U256{1, 2, 3, 4})) != 0 || numberOf(bigOf(api.U256{1, 2, 3, 4})) != (api.U256{1, 2, 3, 4}) {
		t.Error("addresses and numbers")
	}
	if got := answer([]string{"put 0x01 0x02", "root"}, "get 0x01"); got != "ok 1 0x02" {
		t.Errorf("answer: %q", got)
	}
	if whole([]string{"a", "", "b\nc"}) != "a\nb\nc\n" {
		t.Error("whole")
	}
}
