package abi

import "strconv"

const (
	wordSize  = 32
	mostText  = 4096  // bytes of a type's or a signature's text
	mostDeep  = 32    // lists and tuples within one another
	mostWidth = 65536 // of a type, and of a row of them
	mostCount = 65535 // values of a list whose number is fixed
)

// Kinds of shapes, and what their size is.
const (
	wholeNumber  = iota // the bits of the number
	signedNumber        // the same
	someText            // the number of bytes; 0: any number
	someList            // the number of values; 0: any number
	someTuple           // nothing: it has as many values as parts
)

// shape is a type, read into a tree.
type shape struct {
	kind, size int
	name       string  // own text of a base that is no tuple
	parts      []shape // of a list the one that all its values have, of a tuple those of its values
	dynamic    bool
	width      int
	deep       int // lists and tuples within one another, itself among them
}

func baseOf(kind, size int, name string) shape {
	return shape{kind: kind, size: size, name: name, dynamic: kind == someText && size == 0, width: 1}
}

func listOf(part shape, size int) shape {
	t := shape{kind: someList, size: size, parts: []shape{part}, dynamic: part.dynamic, width: size * part.width, deep: part.deep + 1}
	if size == 0 {
		t.dynamic, t.width = true, 1
	}
	return t
}

func tupleOf(parts []shape) shape {
	t := shape{kind: someTuple, parts: parts}
	for _, part := range parts {
		t.dynamic = t.dynamic || part.dynamic
		t.width += part.width
		t.deep = max(t.deep, part.deep)
	}
	t.deep++
	return t
}

// words tells how many words the head takes. A static type has no other place, so it is as wide as its head.
func (t *shape) words() int {
	if t.dynamic {
		return 1
	}
	return t.width
}

// part tells the shape of the value with the number i.
func (t *shape) part(i int) *shape {
	if t.kind == someList {
		i = 0
	}
	return &t.parts[i]
}

// heads tells how many bytes the heads of a row of n values take.
func (t *shape) heads(n int) int {
	if t.kind == someList {
		return wordSize * n * t.parts[0].words()
	}
	words := 0
	for i := range n {
		words += t.parts[i].words()
	}
	return wordSize * words
}

// own tells the type's own text.
func (t *shape) own() string { return string(t.write(nil)) }

func (t *shape) write(out []byte) []byte {
	switch t.kind {
	case someList:
		out = append(t.parts[0].write(out), '[')
		if t.size != 0 {
			out = strconv.AppendInt(out, int64(t.size), 10)
		}
		return append(out, ']')
	case someTuple:
		return t.writeTuple(out)
	}
	return append(out, t.name...)
}

func (t *shape) writeTuple(out []byte) []byte {
	out = append(out, '(')
	for i := range t.parts {
		if i > 0 {
			out = append(out, ',')
		}
		out = t.parts[i].write(out)
	}
	return append(out, ')')
}
