package abi

import (
	"strconv"

	"waybill/api"
)

// bases are those that are no tuple. The number behind the word is one that step divides, at most most; where that is 0, none may stand there. Without it the size is plain.
var bases = [...]struct {
	word              string
	kind              int
	step, most, plain int
}{
	{"uint", wholeNumber, 8, 256, 256},
	{"int", signedNumber, 8, 256, 256},
	{"address", wholeNumber, 1, 0, 160},
	{"bool", wholeNumber, 1, 0, 1},
	{"bytes", someText, 1, 32, 0},
	{"string", someText, 1, 0, 0},
}

// signature is a function's name and the row of its arguments.
type signature struct {
	name string
	row  *shape
}

func (f signature) own() string { return f.name + f.row.own() }

// typeOf reads a text that is one type and nothing else.
func typeOf(text string) *shape {
	r := readerOf(text)
	t := r.whole()
	r.needEnd()
	return &t
}

// rowOf reads the types of a row. It is laid as a tuple, but may be one deeper.
func rowOf(types []string) *shape {
	if len(types) > mostWidth { // each has a width of 1 at least
		giveUp(api.ErrAbiType)
	}
	parts := make([]shape, len(types))
	for i, text := range types {
		parts[i] = *typeOf(text)
	}
	row := tupleOf(parts)
	if row.width > mostWidth {
		giveUp(api.ErrAbiType)
	}
	return &row
}

// signatureOf reads a text that is a signature and nothing else.
func signatureOf(text string) signature {
	r := readerOf(text)
	name := r.name()
	if text[r.at:] == "()" { // as a type there is no such tuple
		return signature{name, &shape{kind: someTuple}}
	}
	row := r.tuple()
	r.needEnd()
	return signature{name, &row}
}

// reader goes through a text. Where the text is no type, it gives up.
type reader struct {
	text string
	at   int
}

func readerOf(text string) *reader {
	if len(text) > mostText {
		giveUp(api.ErrAbiType)
	}
	return &reader{text: text}
}

// peek tells the next byte, 0 at the end: no rule asks for a byte 0.
func (r *reader) peek() byte {
	if r.at == len(r.text) {
		return 0
	}
	return r.text[r.at]
}

// skip goes behind the next byte, if it is the one that is told.
func (r *reader) skip(c byte) bool {
	if r.peek() != c {
		return false
	}
	r.at++
	return true
}

func (r *reader) need(c byte) {
	if !r.skip(c) {
		giveUp(api.ErrAbiType)
	}
}

func (r *reader) needEnd() {
	if r.at != len(r.text) {
		giveUp(api.ErrAbiType)
	}
}

// run goes through the bytes that are of a kind, and tells them.
func (r *reader) run(ofKind func(byte) bool) string {
	begin := r.at
	for ofKind(r.peek()) {
		r.at++
	}
	return r.text[begin:r.at]
}

// number reads one from 1 to most, without zeros ahead.
func (r *reader) number(most int) int {
	digits := r.run(isDigit)
	if digits == "" || digits[0] == '0' {
		giveUp(api.ErrAbiType)
	}
	n := 0
	for _, c := range []byte(digits) {
		n = 10*n + int(c-'0')
		if n > most {
			giveUp(api.ErrAbiType)
		}
	}
	return n
}

// name reads a function's name.
func (r *reader) name() string {
	if isDigit(r.peek()) {
		giveUp(api.ErrAbiType)
	}
	name := r.run(isNamed)
	if name == "" {
		giveUp(api.ErrAbiType)
	}
	return name
}

// whole reads a type: a base and the lists around it.
func (r *reader) whole() shape {
	var t shape
	if r.peek() == '(' {
		t = r.tuple()
	} else {
		t = r.base()
	}
	for r.skip('[') {
		size := 0
		if !r.skip(']') {
			size = r.number(mostCount)
			r.need(']')
		}
		t = limited(listOf(t, size))
	}
	return t
}

func (r *reader) tuple() shape {
	r.need('(')
	parts := []shape{r.whole()}
	for r.skip(',') {
		parts = append(parts, r.whole())
	}
	r.need(')')
	return limited(tupleOf(parts))
}

func (r *reader) base() shape {
	word := r.run(isLower)
	for _, b := range bases {
		if b.word != word {
			continue
		}
		size := b.plain
		if isDigit(r.peek()) {
			size = r.number(b.most)
			if size%b.step != 0 {
				giveUp(api.ErrAbiType)
			}
		}
		if b.most != 0 && size != 0 {
			word += strconv.Itoa(size)
		}
		return baseOf(b.kind, size, word)
	}
	giveUp(api.ErrAbiType)
	return shape{}
}

// limited gives up at a list or tuple that is too deep or too wide.
func limited(t shape) shape {
	if t.deep > mostDeep || t.width > mostWidth {
		giveUp(api.ErrAbiType)
	}
	return t
}

func isDigit(c byte) bool { return '0' <= c && c <= '9' }

func isLower(c byte) bool { return 'a' <= c && c <= 'z' }

func isNamed(c byte) bool {
	return isLower(c) || 'A' <= c && c <= 'Z' || isDigit(c) || c == '_' || c == '$'
}
