package tool

import (
	"strings"

	"waybill/api"
	"waybill/hexa"
	"waybill/u256"
)

// okay is the last line of an answer, with these words behind the ok.
func okay(words ...string) string {
	return strings.Join(append([]string{"ok"}, words...), " ")
}

// fault is what is told of an error.
func fault(e api.Errno) string { return "error " + count(e) }

// done is the answer of a call that has nothing but its error to tell.
func done(e api.Errno) (string, api.Errno) { return okay(), e }

func okHash(h api.Hash, e api.Errno) (string, api.Errno) { return okay(hexa.HashText(h)), e }

func okAddress(a api.Address, e api.Errno) (string, api.Errno) { return okay(hexa.Checksum(a)), e }

func okNumber(x api.U256, e api.Errno) (string, api.Errno) { return okay(u256.Text(x)), e }

func okData(b []byte, e api.Errno) (string, api.Errno) { return okay(data(b)), e }

// okBool is the answer of a call that tells whether it found something to do.
func okBool(yes bool) (string, api.Errno) {
	if yes {
		return okay("1"), api.OK
	}
	return okay("0"), api.OK
}

// okFound is the answer of a call that looks for a value.
func okFound(found []byte, there bool, e api.Errno) (string, api.Errno) {
	if !there {
		return okay("0"), e
	}
	return okay("1", data(found)), e
}

// data tells bytes. Nothing that is told has more than MaxInput of them: the layers below refuse that first.
func data(b []byte) string {
	text, _ := hexa.Data(b)
	return text
}

// count tells a number that is not below 0.
func count[T ~int | ~uint64](n T) string { return u256.Text(u256.From(uint64(n))) }

// each tells a line of each thing, and then how many there are.
func each[T any](list []T, line func(T) string) string {
	var b strings.Builder
	for _, x := range list {
		b.WriteString(line(x))
		b.WriteByte('\n')
	}
	b.WriteString(okay(count(len(list))))
	return b.String()
}
