package message

import (
	"slices"
	"strings"

	"waybill/abi"
	"waybill/api"
	"waybill/keccak"
	"waybill/u256"
)

const (
	mostWord  = 256   // characters of a name
	mostPairs = 32    // pairs of brackets behind a base
	mostCount = 65535 // values of a list whose number is fixed
)

// book is a right list of structs.
type book struct {
	structs []api.Struct
	places  map[string]int      // where in the list the struct of a Name stands
	shapes  [][]shape           // the types of each struct's members
	digests map[string]api.Hash // the TypeHashes that have been asked for
}

// shape is a member's type: a base, and the lists around it.
type shape struct {
	base     string
	isStruct bool  // the base is the Name of a struct of the list
	sizes    []int // how many values each list has, the outermost last; 0: any number
}

// bookWith reads a list of structs that must be right and have one of that name.
func bookWith(structs []api.Struct, name string) (*book, api.Errno) {
	b := &book{structs: structs, places: map[string]int{}, digests: map[string]api.Hash{}}
	if !b.readNames() || !b.readMembers() {
		return nil, api.ErrMsgType
	}
	if _, there := b.places[name]; !there {
		return nil, api.ErrMsgType
	}
	return b, api.OK
}

// members tells the types of the members of a struct that is there.
func (b *book) members(name string) []shape { return b.shapes[b.places[name]] }

// readNames goes ahead of readMembers: a type may name a struct that comes later.
func (b *book) readNames() bool {
	for i, s := range b.structs {
		if _, twice := b.places[s.Name]; twice || !isWord(s.Name) || isTaken(s.Name) {
			return false
		}
		b.places[s.Name] = i
	}
	return true
}

func (b *book) readMembers() bool {
	for _, s := range b.structs {
		shapes := make([]shape, len(s.Members))
		met := make(map[string]struct{}, len(s.Members))
		for i, m := range s.Members {
			t, ok := b.readType(m.Type)
			if _, twice := met[m.Name]; twice || !ok || !isWord(m.Name) {
				return false
			}
			shapes[i], met[m.Name] = t, struct{}{}
		}
		b.shapes = append(b.shapes, shapes)
	}
	return true
}

// readType reads a member's type, and tells whether it is one.
func (b *book) readType(text string) (shape, bool) {
	base, pairs := text, ""
	if at := strings.IndexByte(text, '['); at >= 0 {
		base, pairs = text[:at], text[at:]
	}
	sizes, ok := readPairs(pairs)
	_, isStruct := b.places[base]
	if !ok || !isStruct && !isBase(base) {
		return shape{}, false
	}
	return shape{base: base, isStruct: isStruct, sizes: sizes}, true
}

// readPairs reads the pairs of brackets behind a base.
func readPairs(text string) ([]int, bool) {
	var sizes []int
	for text != "" {
		inside, behind, closed := strings.Cut(text[1:], "]")
		size, ok := readCount(inside)
		if text[0] != '[' || !closed || !ok || len(sizes) == mostPairs {
			return nil, false
		}
		sizes, text = append(sizes, size), behind
	}
	return sizes, true
}

// readCount reads what stands within a pair of brackets; nothing is 0.
func readCount(text string) (int, bool) {
	if text == "" {
		return 0, true
	}
	n, e := u256.Parse(text)
	if e != api.OK || n == u256.From(0) || u256.Cmp(n, u256.From(mostCount)) > 0 {
		return 0, false
	}
	return int(n[0]), true
}

func isWord(text string) bool {
	if text == "" || len(text) > mostWord || isDigit(text[0]) {
		return false
	}
	for _, c := range []byte(text) {
		if !isLetter(c) && !isDigit(c) && c != '_' && c != '$' {
			return false
		}
	}
	return true
}

func isLetter(c byte) bool { return 'a' <= c && c <= 'z' || 'A' <= c && c <= 'Z' }

func isDigit(c byte) bool { return '0' <= c && c <= '9' }

// isTaken tells whether a word is a type without any struct: a base, or a short form of one.
func isTaken(word string) bool {
	_, e := abi.Type(word)
	return e == api.OK
}

// isBase tells whether a text is a base that is no struct. Those are the words that are types in their own form: lists and tuples are no words.
func isBase(text string) bool {
	own, e := abi.Type(text)
	return e == api.OK && own == text && isWord(text)
}

// leans tells the Names of a struct and of all that it leans on: its own first, the others rising.
func (b *book) leans(name string) []string {
	met := map[string]struct{}{name: {}}
	names := []string{name}
	for at := 0; at < len(names); at++ { // names grows as long as new ones are met
		for _, t := range b.members(names[at]) {
			if _, there := met[t.base]; there || !t.isStruct {
				continue
			}
			met[t.base] = struct{}{}
			names = append(names, t.base)
		}
	}
	slices.Sort(names[1:])
	return names
}

func (b *book) typeText(name string) string {
	var text strings.Builder
	for _, n := range b.leans(name) {
		s := b.structs[b.places[n]]
		text.WriteString(s.Name + "(")
		for i, m := range s.Members {
			if i > 0 {
				text.WriteString(",")
			}
			text.WriteString(m.Type + " " + m.Name)
		}
		text.WriteString(")")
	}
	return text.String()
}

func (b *book) typeHash(name string) api.Hash {
	digest, there := b.digests[name]
	if !there { // many values may be of one struct
		digest = keccak.Sum([]byte(b.typeText(name)))
		b.digests[name] = digest
	}
	return digest
}
