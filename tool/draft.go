package tool

import (
	"waybill/api"
	"waybill/signing"
	"waybill/wire"
)

// nobody is told, and taken, in the place of the receiver of a transaction that makes a contract.
const nobody = "nobody"

// field is a row of the table of what may be set in the draft: the form of the word, and where its value goes.
type field struct {
	form rune
	set  func(t *api.Tx, v value) api.Errno
}

// plainly makes of what can't be refused what a row wants.
func plainly(set func(t *api.Tx, v value)) func(t *api.Tx, v value) api.Errno {
	return func(t *api.Tx, v value) api.Errno {
		set(t, v)
		return api.OK
	}
}

func fields() map[string]field {
	return map[string]field{
		"chain":   {'U', plainly(func(t *api.Tx, v value) { t.Chain = v.small })},
		"nonce":   {'U', plainly(func(t *api.Tx, v value) { t.Nonce = v.small })},
		"gas":     {'U', plainly(func(t *api.Tx, v value) { t.Gas = v.small })},
		"price":   {'N', plainly(func(t *api.Tx, v value) { t.Price = v.number })},
		"tip":     {'N', plainly(func(t *api.Tx, v value) { t.Tip = v.number })},
		"cap":     {'N', plainly(func(t *api.Tx, v value) { t.Cap = v.number })},
		"value":   {'N', plainly(func(t *api.Tx, v value) { t.Value = v.number })},
		"blobcap": {'N', plainly(func(t *api.Tx, v value) { t.BlobCap = v.number })},
		"to":      {'W', setTo},
		"data":    {'D', plainly(func(t *api.Tx, v value) { t.Data = v.data })},
		"blob":    {'H', plainly(func(t *api.Tx, v value) { t.BlobHashes = append(t.BlobHashes, v.hash) })},
		"warm":    {'A', plainly(func(t *api.Tx, v value) { t.Access = append(t.Access, api.AccessEntry{Address: v.address}) })},
		"slot":    {'H', setSlot},
	}
}

// setTo reads its word itself, since it has a form of its own.
func setTo(t *api.Tx, v value) api.Errno {
	if v.word == nobody {
		t.Create, t.To = true, api.Address{}
		return api.OK
	}
	to, ok := readOne('A', v.word)
	if !ok {
		return api.ErrWord
	}
	t.Create, t.To = false, to.address
	return api.OK
}

func setSlot(t *api.Tx, v value) api.Errno {
	if len(t.Access) == 0 {
		return api.ErrWord
	}
	last := &t.Access[len(t.Access)-1]
	last.Keys = append(last.Keys, v.hash)
	return api.OK
}

func playNew(d *desk, v []value) (string, api.Errno) {
	if v[0].small > api.TypeSetCode {
		return "", api.ErrTxType
	}
	d.draft = api.Tx{Type: int(v[0].small)}
	return done(api.OK)
}

func playSet(d *desk, v []value) (string, api.Errno) {
	row, ok := fields()[v[0].word]
	if !ok {
		return "", api.ErrWord
	}
	wanted, ok := readOne(row.form, v[1].word)
	if !ok {
		return "", api.ErrWord
	}
	return done(row.set(&d.draft, wanted))
}

// playSignTx keeps the draft till nothing can be refused any more.
func playSignTx(d *desk, v []value) (string, api.Errno) {
	signed, e := signing.Sign(d.draft, v[0].number)
	if e != api.OK {
		return "", e
	}
	raw, e := wire.EncodeTx(signed)
	if e != api.OK {
		return "", e
	}
	d.draft = signed
	return okData(raw, api.OK)
}
