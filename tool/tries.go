package tool

import (
	"strings"

	"waybill/api"
	"waybill/proof"
	"waybill/rlp"
	"waybill/trie"
)

func trieCommands() map[string]command {
	return map[string]command{
		"rlp":      {"D", playTree},
		"put":      {"DD", func(d *desk, v []value) (string, api.Errno) { return done(d.trie.Put(v[0].data, v[1].data)) }},
		"del":      {"D", func(d *desk, v []value) (string, api.Errno) { return okBool(d.trie.Delete(v[0].data)) }},
		"get":      {"D", playGet},
		"root":     {"", func(d *desk, _ []value) (string, api.Errno) { return okHash(d.trie.Root(), api.OK) }},
		"prove":    {"D", playProve},
		"check":    {"HDd", playCheck},
		"listroot": {"d", func(_ *desk, v []value) (string, api.Errno) { return okHash(trie.ListRoot(texts(v))) }},
	}
}

func playTree(_ *desk, v []value) (string, api.Errno) {
	item, e := rlp.Decode(v[0].data)
	if e != api.OK {
		return "", e
	}
	var b strings.Builder
	writeTree(&b, item)
	return okay(b.String()), api.OK
}

// writeTree may call itself: what rlp reads has at most MaxDepth lists within one another.
func writeTree(b *strings.Builder, item api.Item) {
	if !item.List {
		b.WriteString(data(item.Data))
		return
	}
	b.WriteByte('[')
	for i, inner := range item.Items {
		if i > 0 {
			b.WriteByte(' ')
		}
		writeTree(b, inner)
	}
	b.WriteByte(']')
}

func playGet(d *desk, v []value) (string, api.Errno) {
	found, there := d.trie.Get(v[0].data)
	return okFound(found, there, api.OK)
}

func playProve(d *desk, v []value) (string, api.Errno) {
	nodes, e := proof.Prove(d.trie, v[0].data)
	return each(nodes, data), e
}

func playCheck(_ *desk, v []value) (string, api.Errno) {
	return okFound(proof.Verify(v[0].hash, v[1].data, texts(v[2:])))
}
