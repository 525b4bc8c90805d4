package tool

import (
	"strings"

	"waybill/api"
	"waybill/fees"
	"waybill/hexa"
	"waybill/signing"
	"waybill/u256"
	"waybill/wire"
)

func txCommands() map[string]command {
	return map[string]command{
		"new":      {"U", playNew},
		"set":      {"WW", playSet},
		"signtx":   {"K", playSignTx},
		"tx":       {"D", playTx},
		"senders":  {"Id", playSenders},
		"fees":     {"DN", playFees},
		"base":     {"NUU", playBase},
		"blobbase": {"UU", playBlobBase},
	}
}

func playTx(_ *desk, v []value) (string, api.Errno) {
	raw := v[0].data
	t, e := wire.DecodeTx(raw)
	if e != api.OK {
		return "", e
	}
	hash, _ := wire.TxHash(raw)
	lines := []string{
		"type " + count(t.Type),
		"chain " + chain(t),
		"nonce " + count(t.Nonce),
		"gas " + count(t.Gas),
		"value " + u256.Text(t.Value),
		"to " + receiver(t),
		"data " + data(t.Data),
		"hash " + hexa.HashText(hash),
		"sender " + sender(raw),
		okay(),
	}
	return strings.Join(lines, "\n"), api.OK
}

func chain(t api.Tx) string {
	number, bound, _ := signing.Protected(t)
	if !bound {
		return "none"
	}
	return count(number)
}

func receiver(t api.Tx) string {
	if t.Create {
		return nobody
	}
	return hexa.Checksum(t.To)
}

func sender(raw []byte) string {
	a, e := wire.Sender(raw)
	if e != api.OK {
		return fault(e)
	}
	return hexa.Checksum(a)
}

func playSenders(_ *desk, v []value) (string, api.Errno) {
	all, e := wire.Senders(texts(v[1:]), int(v[0].small))
	return each(all, sentLine), e
}

func sentLine(s api.Sent) string {
	if s.Err != api.OK {
		return fault(s.Err)
	}
	return hexa.HashText(s.Hash) + " " + hexa.Checksum(s.Sender)
}

func playFees(_ *desk, v []value) (string, api.Errno) {
	t, e := wire.DecodeTx(v[0].data)
	if e != api.OK {
		return "", e
	}
	needed, e := fees.Intrinsic(t)
	if e != api.OK {
		return "", e
	}
	floor, e := fees.Floor(t)
	if e != api.OK {
		return "", e
	}
	price, tip, e := fees.Price(t, v[1].number)
	return okay(count(needed), count(floor), u256.Text(price), u256.Text(tip)), e
}

func playBase(_ *desk, v []value) (string, api.Errno) {
	return okNumber(fees.NextBase(v[0].number, v[1].small, v[2].small))
}

func playBlobBase(_ *desk, v []value) (string, api.Errno) {
	return okNumber(fees.BlobBase(v[0].small, v[1].small))
}
