package tool

import (
	"strings"

	"waybill/api"
	"waybill/block"
	"waybill/header"
	"waybill/hexa"
	"waybill/wire"
)

func paperCommands() map[string]command {
	return map[string]command{
		"receipt": {"D", playReceipt},
		"kind":    {"D", playKind},
		"header":  {"D", playHeader},
		"child":   {"DD", playChild},
		"block":   {"D", playBlock},
		"whole":   {"D", playWhole},
	}
}

func playReceipt(_ *desk, v []value) (string, api.Errno) {
	r, e := wire.DecodeReceipt(v[0].data)
	if e != api.OK {
		return "", e
	}
	lines := []string{
		"type " + count(r.Type),
		outcome(r),
		"used " + count(r.Used),
		each(r.Logs, logLine),
	}
	return strings.Join(lines, "\n"), api.OK
}

func outcome(r api.Receipt) string {
	if r.Rooted {
		return "root " + hexa.HashText(r.Root)
	}
	return "status " + count(r.Status)
}

func logLine(l api.Log) string {
	words := []string{"log", hexa.Checksum(l.Address)}
	for _, topic := range l.Topics {
		words = append(words, hexa.HashText(topic))
	}
	return strings.Join(append(words, data(l.Data)), " ")
}

func playKind(_ *desk, v []value) (string, api.Errno) {
	kind, e := wire.Kind(v[0].data)
	return okay(count(kind)), e
}

func playHeader(_ *desk, v []value) (string, api.Errno) {
	h, e := header.Decode(v[0].data)
	if e != api.OK {
		return "", e
	}
	hash, e := header.Hash(h)
	return okay(hexa.HashText(hash), count(h.Number), count(h.Tail)), e
}

func playChild(_ *desk, v []value) (string, api.Errno) {
	parent, e := header.Decode(v[0].data)
	if e != api.OK {
		return "", e
	}
	child, e := header.Decode(v[1].data)
	if e != api.OK {
		return "", e
	}
	return done(header.Child(parent, child))
}

func playBlock(_ *desk, v []value) (string, api.Errno) {
	b, e := block.Decode(v[0].data)
	if e != api.OK {
		return "", e
	}
	hash, e := header.Hash(b.Header)
	return okay(hexa.HashText(hash), count(len(b.Txs)), count(len(b.Uncles)), count(len(b.Withdrawals))), e
}

func playWhole(_ *desk, v []value) (string, api.Errno) {
	b, e := block.Decode(v[0].data)
	if e != api.OK {
		return "", e
	}
	return done(block.Check(b))
}
