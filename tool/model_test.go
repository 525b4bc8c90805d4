package tool_test

import (
	"crypto/hmac"
	"crypto/sha256"
	"crypto/sha3"
	"math/big"
	"slices"
	"strconv"
	"strings"

	"waybill/abi"
	"waybill/address"
	"waybill/api"
	"waybill/block"
	"waybill/curve"
	"waybill/ecdsa"
	"waybill/fees"
	"waybill/header"
	"waybill/keccak"
	"waybill/message"
	"waybill/pool"
	"waybill/proof"
	"waybill/rlp"
	"waybill/signing"
	"waybill/state"
	"waybill/trie"
	"waybill/wire"
)

// model plays scripts by the chapter's words. What they leave to the layers below is theirs, which have tests of their own.
type model struct {
	trie  *trie.Trie
	state *state.State
	pool  *pool.Pool
	draft api.Tx
}

func newModel() *model { return &model{trie: trie.New(), state: state.New()} }

// run tells the answer of each line; "" of one that has none.
func (m *model) run(lines []string) []string {
	var answers []string
	for _, line := range lines {
		answers = append(answers, m.line(line))
	}
	return answers
}

func (m *model) line(line string) string {
	if len(line) > 0 && line[0] == '#' {
		return ""
	}
	words, ok := modelParse(line)
	if ok && len(words) == 0 {
		return ""
	}
	if !ok {
		return "error 260"
	}
	forms, ok := formsOf(words[0])
	if !ok || !areOf(forms, words[1:]) {
		return "error 260"
	}
	lines, e := m.play(words[0], words[1:])
	if e != api.OK {
		return "error " + strconv.Itoa(int(e))
	}
	return strings.Join(lines, "\n")
}

// modelParse goes from the line's end to its begin.
func modelParse(line string) ([]string, bool) {
	var words []string
	end := len(line)
	for i := len(line) - 1; i >= -1; i-- {
		if i >= 0 && line[i] != 32 {
			if line[i] < 33 || line[i] > 126 {
				return nil, false
			}
			continue
		}
		if i+1 < end {
			words = append(words, line[i+1:end])
		}
		end = i
	}
	slices.Reverse(words)
	return words, true
}

func say(words ...string) ([]string, api.Errno) { return []string{strings.Join(words, " ")}, api.OK }

func refuse(e api.Errno) ([]string, api.Errno) { return nil, e }

// sayIf says the words, if there was no error.
func sayIf(e api.Errno, words ...string) ([]string, api.Errno) {
	if e != api.OK {
		return refuse(e)
	}
	return say(words...)
}

func hashIn(w string) api.Hash       { return api.Hash(digits(w)) }
func addressIn(w string) api.Address { return api.Address(digits(w)) }
func keyIn(w string) api.U256        { return numberOf(new(big.Int).SetBytes(digits(w))) }

func numberIn(w string) api.U256 {
	n, _ := new(big.Int).SetString(w, 10)
	return numberOf(n)
}

func smallIn(w string) uint64 {
	n, _ := strconv.ParseUint(w, 10, 64)
	return n
}

func textsIn(words []string) [][]byte {
	var all [][]byte
	for _, w := range words {
		all = append(all, digits(w))
	}
	return all
}

func num(n uint64) string      { return strconv.FormatUint(n, 10) }
func sum(x api.U256) string    { return bigOf(x).String() }
func size[T any](l []T) string { return strconv.Itoa(len(l)) }

func (m *model) play(name string, w []string) ([]string, api.Errno) {
	for _, part := range []func(string, []string) ([]string, api.Errno, bool){
		m.hashes, m.keys, m.tries, m.drafts, m.txs, m.papers, m.accounts, m.waiting, m.contracts,
	} {
		if lines, e, mine := part(name, w); mine {
			return lines, e
		}
	}
	panic("no such command: " + name)
}

func (m *model) hashes(name string, w []string) (lines []string, e api.Errno, mine bool) {
	mine = true
	switch name {
	case "keccak":
		lines, e = say("ok", toldHash(keccak.Sum([]byte(joined(w)))))
	case "sha3":
		h := sha3.Sum256([]byte(joined(w)))
		lines, e = say("ok", told(h[:]))
	case "sha":
		h := sha256.Sum256([]byte(joined(w)))
		lines, e = say("ok", told(h[:]))
	case "hmac":
		h := hmac.New(sha256.New, digits(w[0]))
		h.Write([]byte(joined(w[1:])))
		lines, e = say("ok", told(h.Sum(nil)))
	case "calc":
		lines, e = modelCalc(w[0], bigOf(numberIn(w[1])), bigOf(numberIn(w[2])))
	default:
		mine = false
	}
	return lines, e, mine
}

func joined(words []string) string {
	all := ""
	for _, w := range words {
		all += string(digits(w))
	}
	return all
}

func modelCalc(word string, x, y *big.Int) ([]string, api.Errno) {
	all := new(big.Int).Lsh(big.NewInt(1), 256)
	z := new(big.Int)
	if (word == "div" || word == "mod") && y.Sign() == 0 {
		return refuse(api.ErrNumZero)
	}
	switch word {
	case "add":
		z.Add(x, y)
	case "sub":
		z.Sub(x, y)
	case "mul":
		z.Mul(x, y)
	case "div":
		z.Div(x, y)
	case "mod":
		z.Mod(x, y)
	case "exp":
		z.Exp(x, y, all)
	default:
		return refuse(api.ErrWord)
	}
	return say("ok", z.Mod(z, all).String())
}

func (m *model) keys(name string, w []string) (lines []string, e api.Errno, mine bool) {
	mine = true
	switch name {
	case "key":
		a, e1 := address.OfKey(keyIn(w[0]))
		b, _ := curve.Compress(curve.MulG(keyIn(w[0])))
		lines, e = sayIf(e1, "ok", toldCheck(a), told(b))
	case "sign":
		s, e1 := ecdsa.Sign(keyIn(w[0]), hashIn(w[1]))
		lines, e = packed(s, e1)
	case "personal":
		s, e1 := message.SignPersonal(digits(w[1]), keyIn(w[0]))
		lines, e = packed(s, e1)
	case "recover":
		s, e1 := ecdsa.Unpack(digits(w[1]))
		if e1 != api.OK {
			return nil, e1, true
		}
		p, e1 := ecdsa.Recover(hashIn(w[0]), s)
		a, _ := address.OfPoint(p)
		lines, e = sayIf(e1, "ok", toldCheck(a))
	case "spoke":
		s, e1 := ecdsa.Unpack(digits(w[1]))
		if e1 != api.OK {
			return nil, e1, true
		}
		a, e1 := message.RecoverPersonal(digits(w[0]), s)
		lines, e = sayIf(e1, "ok", toldCheck(a))
	case "address":
		lines, e = say("ok", toldCheck(addressIn(w[0])))
	case "create":
		lines, e = say("ok", toldCheck(address.Create(addressIn(w[0]), smallIn(w[1]))))
	case "create2":
		lines, e = say("ok", toldCheck(address.Create2(addressIn(w[0]), hashIn(w[1]), digits(w[2]))))
	default:
		mine = false
	}
	return lines, e, mine
}

func packed(s api.Sig, e api.Errno) ([]string, api.Errno) {
	b, _ := ecdsa.Pack(s)
	return sayIf(e, "ok", told(b))
}

func (m *model) tries(name string, w []string) (lines []string, e api.Errno, mine bool) {
	mine = true
	switch name {
	case "rlp":
		it, e1 := rlp.Decode(digits(w[0]))
		lines, e = sayIf(e1, "ok", modelTree(it))
	case "put":
		lines, e = sayIf(m.trie.Put(digits(w[0]), digits(w[1])), "ok")
	case "del":
		lines, e = say("ok", yes(m.trie.Delete(digits(w[0]))))
	case "get":
		b, there := m.trie.Get(digits(w[0]))
		lines, e = modelFound(b, there, api.OK)
	case "root":
		lines, e = say("ok", toldHash(m.trie.Root()))
	case "prove":
		nodes, e1 := proof.Prove(m.trie, digits(w[0]))
		for _, b := range nodes {
			lines = append(lines, told(b))
		}
		lines, e = append(lines, "ok "+size(nodes)), e1
	case "check":
		lines, e = modelFound(proof.Verify(hashIn(w[0]), digits(w[1]), textsIn(w[2:])))
	case "listroot":
		h, e1 := trie.ListRoot(textsIn(w))
		lines, e = sayIf(e1, "ok", toldHash(h))
	default:
		mine = false
	}
	return lines, e, mine
}

func modelTree(it api.Item) string {
	if !it.List {
		return told(it.Data)
	}
	var all []string
	for _, inner := range it.Items {
		all = append(all, modelTree(inner))
	}
	return "[" + strings.Join(all, " ") + "]"
}

func yes(b bool) string {
	if b {
		return "1"
	}
	return "0"
}

func modelFound(b []byte, there bool, e api.Errno) ([]string, api.Errno) {
	if there {
		return sayIf(e, "ok", "1", told(b))
	}
	return sayIf(e, "ok", "0")
}

func (m *model) drafts(name string, w []string) (lines []string, e api.Errno, mine bool) {
	mine = true
	switch name {
	case "new":
		if kind := smallIn(w[0]); kind > 4 {
			e = api.ErrTxType
		} else {
			m.draft = api.Tx{Type: int(kind)}
			lines = []string{"ok"}
		}
	case "set":
		if e = api.ErrWord; m.set(w[0], w[1]) {
			lines, e = say("ok")
		}
	case "signtx":
		signed, e1 := signing.Sign(m.draft, keyIn(w[0]))
		if e1 != api.OK {
			return nil, e1, true
		}
		b, e1 := wire.EncodeTx(signed)
		if e1 == api.OK {
			m.draft = signed
		}
		lines, e = sayIf(e1, "ok", told(b))
	default:
		mine = false
	}
	return lines, e, mine
}

// set tells whether the draft has been changed.
func (m *model) set(what, w string) bool {
	t := &m.draft
	smalls := []string{"chain", "nonce", "gas"}
	for i, p := range []*uint64{&t.Chain, &t.Nonce, &t.Gas} {
		if what == smalls[i] && isOf("U", w) {
			*p = smallIn(w)
			return true
		}
	}
	wides := []string{"price", "tip", "cap", "value", "blobcap"}
	for i, p := range []*api.U256{&t.Price, &t.Tip, &t.Cap, &t.Value, &t.BlobCap} {
		if what == wides[i] && isOf("N", w) {
			*p = numberIn(w)
			return true
		}
	}
	switch {
	case what == "to" && w == "nobody":
		t.Create, t.To = true, api.Address{}
	case what == "to" && isOf("A", w):
		t.Create, t.To = false, addressIn(w)
	case what == "data" && isOf("D", w):
		t.Data = digits(w)
	case what == "blob" && isOf("H", w):
		t.BlobHashes = append(t.BlobHashes, hashIn(w))
	case what == "warm" && isOf("A", w):
		t.Access = append(t.Access, api.AccessEntry{Address: addressIn(w)})
	case what == "slot" && isOf("H", w) && len(t.Access) > 0:
		n := len(t.Access) - 1
		t.Access[n].Keys = append(t.Access[n].Keys, hashIn(w))
	default:
		return false
	}
	return true
}

func (m *model) txs(name string, w []string) (lines []string, e api.Errno, mine bool) {
	mine = true
	switch name {
	case "tx":
		lines, e = modelTx(digits(w[0]))
	case "senders":
		all, e1 := wire.Senders(textsIn(w[1:]), int(smallIn(w[0])))
		for _, s := range all {
			line := toldHash(s.Hash) + " " + toldCheck(s.Sender)
			if s.Err != api.OK {
				line = "error " + strconv.Itoa(int(s.Err))
			}
			lines = append(lines, line)
		}
		lines, e = append(lines, "ok "+size(all)), e1
	case "fees":
		t, e1 := wire.DecodeTx(digits(w[0]))
		if e1 != api.OK {
			return nil, e1, true
		}
		a, _ := fees.Intrinsic(t)
		b, _ := fees.Floor(t)
		c, d, e1 := fees.Price(t, numberIn(w[1]))
		lines, e = sayIf(e1, "ok", num(a), num(b), sum(c), sum(d))
	case "base":
		x, e1 := fees.NextBase(numberIn(w[0]), smallIn(w[1]), smallIn(w[2]))
		lines, e = sayIf(e1, "ok", sum(x))
	case "blobbase":
		x, e1 := fees.BlobBase(smallIn(w[0]), smallIn(w[1]))
		lines, e = sayIf(e1, "ok", sum(x))
	default:
		mine = false
	}
	return lines, e, mine
}

func modelTx(b []byte) ([]string, api.Errno) {
	t, e := wire.DecodeTx(b)
	if e != api.OK {
		return nil, e
	}
	chain, to, sender := num(t.Chain), toldCheck(t.To), ""
	if _, bound, _ := signing.Protected(t); t.Type == 0 && !bound {
		chain = "none"
	}
	if t.Create {
		to = "nobody"
	}
	if a, e := wire.Sender(b); e == api.OK {
		sender = toldCheck(a)
	} else {
		sender = "error " + strconv.Itoa(int(e))
	}
	hash, _ := wire.TxHash(b)
	return []string{
		"type " + strconv.Itoa(t.Type), "chain " + chain, "nonce " + num(t.Nonce), "gas " + num(t.Gas), "value " + sum(t.Value),
		"to " + to, "data " + told(t.Data), "hash " + toldHash(hash), "sender " + sender, "ok",
	}, api.OK
}

func (m *model) papers(name string, w []string) (lines []string, e api.Errno, mine bool) {
	mine = true
	switch name {
	case "receipt":
		lines, e = modelReceipt(digits(w[0]))
	case "kind":
		k, e1 := wire.Kind(digits(w[0]))
		lines, e = sayIf(e1, "ok", strconv.Itoa(k))
	case "header":
		h, e1 := header.Decode(digits(w[0]))
		d, _ := header.Hash(h)
		lines, e = sayIf(e1, "ok", toldHash(d), num(h.Number), strconv.Itoa(h.Tail))
	case "child":
		a, e1 := header.Decode(digits(w[0]))
		b, e2 := header.Decode(digits(w[1]))
		e3 := header.Child(a, b)
		for _, e := range []api.Errno{e1, e2, e3} {
			if e != api.OK {
				return nil, e, true
			}
		}
		lines = []string{"ok"}
	case "block":
		b, e1 := block.Decode(digits(w[0]))
		d, _ := header.Hash(b.Header)
		lines, e = sayIf(e1, "ok", toldHash(d), size(b.Txs), size(b.Uncles), size(b.Withdrawals))
	case "whole":
		b, e1 := block.Decode(digits(w[0]))
		if e1 == api.OK {
			e1 = block.Check(b)
		}
		lines, e = sayIf(e1, "ok")
	default:
		mine = false
	}
	return lines, e, mine
}

func modelReceipt(b []byte) ([]string, api.Errno) {
	r, e := wire.DecodeReceipt(b)
	lines := []string{"type " + strconv.Itoa(r.Type), "status " + num(r.Status), "used " + num(r.Used)}
	if r.Rooted {
		lines[1] = "root " + toldHash(r.Root)
	}
	for _, l := range r.Logs {
		line := "log " + toldCheck(l.Address)
		for _, h := range l.Topics {
			line += " " + toldHash(h)
		}
		lines = append(lines, line+" "+told(l.Data))
	}
	return append(lines, "ok "+size(r.Logs)), e
}

func (m *model) accounts(name string, w []string) (lines []string, e api.Errno, mine bool) {
	mine, lines = true, []string{"ok"}
	switch name {
	case "mint":
		e = m.state.Mint(addressIn(w[0]), numberIn(w[1]))
	case "burn":
		e = m.state.Burn(addressIn(w[0]), numberIn(w[1]))
	case "send":
		e = m.state.Transfer(addressIn(w[0]), addressIn(w[1]), numberIn(w[2]))
	case "bump":
		e = m.state.Bump(addressIn(w[0]))
		lines = []string{"ok " + num(m.state.Nonce(addressIn(w[0])))}
	case "store":
		e = m.state.Store(addressIn(w[0]), hashIn(w[1]), numberIn(w[2]))
	case "load":
		lines = []string{"ok " + sum(m.state.Load(addressIn(w[0]), hashIn(w[1])))}
	case "code":
		e = m.state.SetCode(addressIn(w[0]), digits(w[1]))
	case "account":
		a, there := m.state.Account(addressIn(w[0]))
		if lines, e = say("ok", num(a.Nonce), sum(a.Balance), toldHash(a.Storage), toldHash(a.Code)); !there {
			lines = []string{"ok none"}
		}
	case "destroy":
		lines = []string{"ok " + yes(m.state.Destroy(addressIn(w[0])))}
	case "mark":
		lines = []string{"ok " + strconv.Itoa(m.state.Snapshot())}
	case "back":
		e = m.state.Revert(int(smallIn(w[0])))
	case "stateroot":
		lines = []string{"ok " + toldHash(m.state.Root())}
	default:
		mine = false
	}
	return lines, e, mine
}

func (m *model) waiting(name string, w []string) (lines []string, e api.Errno, mine bool) {
	mine, lines = true, []string{"ok"}
	if name == "pool" {
		p, e := pool.New(smallIn(w[0]), numberIn(w[1]), smallIn(w[2]), int(smallIn(w[3])))
		if e == api.OK {
			m.pool = p
		}
		return lines, e, true
	}
	if m.pool == nil && strings.Contains(" fund poolbase submit ready drop mined ", " "+name+" ") {
		return nil, api.ErrName, true
	}
	switch name {
	case "fund":
		e = m.pool.SetAccount(addressIn(w[0]), smallIn(w[1]), numberIn(w[2]))
	case "poolbase":
		e = m.pool.SetBase(numberIn(w[0]))
	case "submit":
		h, e1 := m.pool.Add(digits(w[0]))
		lines, e = sayIf(e1, "ok", toldHash(h))
	case "ready":
		lines = nil
		all := m.pool.Ready(smallIn(w[0]))
		for _, x := range all {
			lines = append(lines, toldHash(x.Hash)+" "+toldCheck(x.Sender)+" "+num(x.Nonce)+" "+sum(x.Tip))
		}
		lines = append(lines, "ok "+size(all))
	case "drop":
		e = m.pool.Drop(hashIn(w[0]))
	case "mined":
		var all []api.Hash
		for _, x := range w {
			all = append(all, hashIn(x))
		}
		lines = []string{"ok " + strconv.Itoa(m.pool.Mined(all))}
	default:
		mine = false
	}
	return lines, e, mine
}

func (m *model) contracts(name string, w []string) (lines []string, e api.Errno, mine bool) {
	mine = true
	switch name {
	case "abitype":
		s, e1 := abi.Type(w[0])
		lines, e = sayIf(e1, "ok", s)
	case "selector":
		s, e1 := abi.Selector(w[0])
		lines, e = sayIf(e1, "ok", told(s[:]))
	case "topic":
		h, e1 := abi.Topic(w[0])
		lines, e = sayIf(e1, "ok", toldHash(h))
	default:
		mine = false
	}
	return lines, e, mine
}
