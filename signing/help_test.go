package signing_test

import (
	"bytes"
	"encoding/hex"
	"math/big"
	"slices"
	"strings"
	"testing"

	"waybill/address"
	"waybill/api"
	"waybill/chance"
	"waybill/curve"
	"waybill/ecdsa"
	"waybill/keccak"
	"waybill/tx"
)

const (
	most     = 1<<64 - 1 // the greatest limb
	maxInput = 16777216
	kinds    = 5
)

var (
	zero   = api.U256{}
	one    = api.U256{1}
	top    = api.U256{most, most, most, most} // 2^256 - 1
	nobody = api.Address{}
	noHash = api.Hash{}
	noSig  = api.Sig{}
)

// digits reads bytes in hexadecimal digits, blanks between them or not.
func digits(s string) []byte {
	b, err := hex.DecodeString(strings.ReplaceAll(s, " ", ""))
	if err != nil {
		panic("not digits: " + s)
	}
	return b
}

// number reads a number in hexadecimal digits.
func number(s string) api.U256 { return narrow(new(big.Int).SetBytes(digits(s))) }

// wide tells x for math/big, narrow goes back: limb by limb, as the document's Words have a number.

func wide(x api.U256) *big.Int {
	n := new(big.Int)
	for _, limb := range slices.Backward(x[:]) {
		n.Lsh(n, 64).Add(n, new(big.Int).SetUint64(limb))
	}
	return n
}

func narrow(n *big.Int) api.U256 {
	if n.Sign() < 0 || n.BitLen() > 256 {
		panic("not below 2^256: " + n.String())
	}
	var x api.U256
	for i := range x {
		x[i] = new(big.Int).Rsh(n, uint(64*i)).Uint64()
	}
	return x
}

func order() *big.Int {
	return wide(number("fffffffffffffffffffffffffffffffebaaedce6af48a03bbfd25e8cd0364141"))
}

// half is the greatest s that is low.
func half() *big.Int {
	return wide(number("7fffffffffffffffffffffffffffffff5d576e7357a4501ddfe92f46681b20a0"))
}

// near tells m and v more, or less, if v is below 0.
func near(m *big.Int, v int64) api.U256 { return narrow(new(big.Int).Add(m, big.NewInt(v))) }

// opposite, over and number modulo n, by math/big.

func opposite(x api.U256) api.U256 {
	return narrow(new(big.Int).Mod(new(big.Int).Neg(wide(x)), order()))
}

func over(x, y api.U256) api.U256 {
	n := new(big.Int).ModInverse(wide(y), order())
	return narrow(n.Mul(n, wide(x)).Mod(n, order()))
}

func numberOf(digest api.Hash) api.U256 {
	n := new(big.Int).SetBytes(digest[:])
	return narrow(n.Mod(n, order()))
}

func text(b ...byte) api.Item { return api.Item{Data: b} }

func list(items ...api.Item) api.Item { return api.Item{List: true, Items: items} }

func scalar(n *big.Int) api.Item { return text(n.Bytes()...) }

func modelHead(first byte, n int) []byte {
	if n <= 55 {
		return []byte{first + byte(n)}
	}
	length := big.NewInt(int64(n)).Bytes()
	return append([]byte{first + 0x37 + byte(len(length))}, length...)
}

func modelBytes(it api.Item) []byte {
	if !it.List {
		if len(it.Data) == 1 && it.Data[0] < 0x80 {
			return []byte{it.Data[0]}
		}
		return append(modelHead(0x80, len(it.Data)), it.Data...)
	}
	var held []byte
	for _, inner := range it.Items {
		held = append(held, modelBytes(inner)...)
	}
	return append(modelHead(0xc0, len(held)), held...)
}

// The models follow the chapter's words. What it leaves to tx.Draft, tx.Check, tx.Fields, to layer 5's points, layer 6's signatures and layer 9's addresses is theirs, which have tests of their own.

// sealed tells the bytes of a list, behind the type's byte, if there is one.
func sealed(kind int, items []api.Item) []byte {
	if kind == 0 {
		return modelBytes(list(items...))
	}
	return append([]byte{byte(kind)}, modelBytes(list(items...))...)
}

func modelPayload(x api.Tx) ([]byte, api.Errno) {
	if e := tx.Draft(x); e != api.OK {
		return nil, e
	}
	items, e := tx.Fields(x)
	if e != api.OK {
		return nil, api.ErrLong
	}
	if x.Type == 0 && x.Chain > 0 {
		items = append(items, scalar(new(big.Int).SetUint64(x.Chain)), text(), text())
	}
	b := sealed(x.Type, items)
	if len(b) > maxInput {
		return nil, api.ErrLong
	}
	return b, api.OK
}

func modelDigest(x api.Tx) (api.Hash, api.Errno) {
	b, e := modelPayload(x)
	if e != api.OK {
		return noHash, e
	}
	return keccak.Sum(b), api.OK
}

// modelV tells how a signature's parity stands.
func modelV(x api.Tx, odd bool) api.U256 {
	o := int64(0)
	if odd {
		o = 1
	}
	switch {
	case x.Type != 0:
		return narrow(big.NewInt(o))
	case x.Chain == 0:
		return narrow(big.NewInt(27 + o))
	}
	n := new(big.Int).SetUint64(x.Chain)
	return narrow(n.Mul(n, big.NewInt(2)).Add(n, big.NewInt(35+o)))
}

func modelSigned(x api.Tx, sig api.Sig) (api.Tx, api.Errno) {
	if _, e := modelPayload(x); e != api.OK {
		return api.Tx{}, e
	}
	if e := ecdsa.Check(sig); e != api.OK {
		return api.Tx{}, e
	}
	x.V, x.R, x.S = modelV(x, sig.Odd), sig.R, sig.S
	items, _ := tx.Fields(x)
	if len(sealed(x.Type, append(items, scalar(wide(x.V)), scalar(wide(x.R)), scalar(wide(x.S))))) > maxInput {
		return api.Tx{}, api.ErrLong
	}
	return x, api.OK
}

func modelSign(x api.Tx, key api.U256) (api.Tx, api.Errno) {
	digest, e := modelDigest(x)
	if e != api.OK {
		return api.Tx{}, e
	}
	sig, e := ecdsa.Sign(key, digest)
	if e != api.OK {
		return api.Tx{}, e
	}
	return modelSigned(x, sig)
}

func modelSignWith(x api.Tx, key, nonce api.U256) (api.Tx, api.Errno) {
	digest, e := modelDigest(x)
	if e != api.OK {
		return api.Tx{}, e
	}
	sig, e := ecdsa.SignWith(key, nonce, digest)
	if e != api.OK {
		return api.Tx{}, e
	}
	return modelSigned(x, sig)
}

func modelSignature(x api.Tx) (api.Sig, api.Errno) {
	if e := tx.Draft(x); e != api.OK {
		return noSig, e
	}
	if wide(x.V).Sign() == 0 && wide(x.R).Sign() == 0 && wide(x.S).Sign() == 0 {
		return noSig, api.ErrUnsigned
	}
	if e := tx.Check(x); e != api.OK {
		return noSig, e
	}
	sig := api.Sig{R: x.R, S: x.S, Odd: x.V[0]%2 == 1}
	if x.Type == 0 { // 27 and 35 + 2 c are odd numbers, and stand for the even point
		sig.Odd = !sig.Odd
	}
	if e := ecdsa.Check(sig); e != api.OK {
		return noSig, e
	}
	return sig, api.OK
}

func modelProtected(x api.Tx) (uint64, bool, api.Errno) {
	if e := tx.Draft(x); e != api.OK {
		return 0, false, e
	}
	if x.Type == 0 && x.Chain == 0 {
		return 0, false, api.OK
	}
	return x.Chain, true, api.OK
}

// modelSigner tells the key as P0.10 has it: Q = r^-1 (s R - e G).
func modelSigner(x api.Tx) (api.Point, api.Errno) {
	sig, e := modelSignature(x)
	if e != api.OK {
		return api.Point{}, e
	}
	digest, e := modelDigest(x)
	if e != api.OK {
		return api.Point{}, e
	}
	at, e := curve.Lift(sig.R, sig.Odd)
	if e != api.OK {
		return api.Point{}, api.ErrSigX
	}
	much, _ := curve.Mul(sig.S, at)
	less, _ := curve.Neg(curve.MulG(numberOf(digest)))
	rest, _ := curve.Add(much, less)
	if rest.Identity {
		return api.Point{}, api.ErrSigZero
	}
	return curve.Mul(over(one, sig.R), rest)
}

func modelSender(x api.Tx) (api.Address, api.Errno) {
	p, e := modelSigner(x)
	if e != api.OK {
		return nobody, e
	}
	b := append(wide(p.X).FillBytes(make([]byte, 32)), wide(p.Y).FillBytes(make([]byte, 32))...)
	h := keccak.Sum(b)
	return api.Address(h[12:]), api.OK
}

// anyAddress and anyHash tell one by chance, often with zeros ahead.

func anyAddress(row *chance.Row) api.Address {
	if row.Below(2) == 0 {
		return api.Address{19: byte(row.Below(3))}
	}
	return api.Address(row.Text(20))
}

func anyHash(row *chance.Row) api.Hash {
	if row.Below(2) == 0 {
		return api.Hash{31: byte(row.Below(3))}
	}
	return api.Hash(row.Text(32))
}

// anyNumber and anySmall tell numbers of any length, often 0.

func anyNumber(row *chance.Row) api.U256 {
	if row.Below(4) == 0 {
		return api.U256{uint64(row.Below(200))}
	}
	return row.Number()
}

func anySmall(row *chance.Row) uint64 { return row.Next() >> row.Below(65) }

// anyInside tells a number from 1 to n - 1, anyLow one from 1 to (n - 1) / 2.

func anyInside(row *chance.Row) api.U256 {
	n := wide(anyNumber(row))
	return narrow(n.Mod(n, wide(near(order(), -1))).Add(n, big.NewInt(1)))
}

func anyLow(row *chance.Row) api.U256 {
	n := wide(anyNumber(row))
	return narrow(n.Mod(n, half()).Add(n, big.NewInt(1)))
}

// anySig tells a signature whose numbers may be.
func anySig(row *chance.Row) api.Sig {
	return api.Sig{R: anyInside(row), S: anyLow(row), Odd: row.Below(2) == 0}
}

func anyAuth(row *chance.Row) api.Auth {
	return api.Auth{Chain: anyNumber(row), Address: anyAddress(row), Nonce: anySmall(row), Parity: uint64(row.Below(256)) >> row.Below(9), R: anyNumber(row), S: anyNumber(row)}
}

func anyEntries(row *chance.Row, count int) []api.AccessEntry {
	var all []api.AccessEntry
	for range row.Below(count + 1) {
		entry := api.AccessEntry{Address: anyAddress(row)}
		for range row.Below(count + 1) {
			entry.Keys = append(entry.Keys, anyHash(row))
		}
		all = append(all, entry)
	}
	return all
}

// anyDraft tells a transaction of a type of which tx.Draft answers OK; V, R and S are any numbers, often 0.
func anyDraft(row *chance.Row, kind int) api.Tx {
	x := api.Tx{Type: kind, Chain: anySmall(row) >> 1, Nonce: anySmall(row), Gas: anySmall(row), To: anyAddress(row), Value: anyNumber(row), Data: row.Text(row.Below(80)), V: anyNumber(row), R: anyNumber(row), S: anyNumber(row)}
	if kind < 3 && row.Below(3) == 0 {
		x.Create, x.To = true, nobody
	}
	if kind < 2 {
		x.Price = anyNumber(row)
	} else {
		x.Tip, x.Cap = anyNumber(row), anyNumber(row)
	}
	switch kind {
	case 0:
		if row.Below(3) == 0 {
			x.Chain = 0
		}
		return x
	case 3:
		x.BlobCap = anyNumber(row)
		for range 1 + row.Below(4) {
			h := anyHash(row)
			h[0] = 1
			x.BlobHashes = append(x.BlobHashes, h)
		}
	case 4:
		for range 1 + row.Below(3) {
			x.Auths = append(x.Auths, anyAuth(row))
		}
	}
	x.Access = anyEntries(row, 3)
	return x
}

// plain tells the least draft of a type.
func plain(kind int) api.Tx {
	return []api.Tx{{}, {Type: 1}, {Type: 2}, {Type: 3, BlobHashes: []api.Hash{{1}}}, {Type: 4, Auths: []api.Auth{{}}}}[kind]
}

// bare tells the draft alone: V, R and S are 0.
func bare(x api.Tx) api.Tx {
	x.V, x.R, x.S = zero, zero, zero
	return x
}

// cloned tells a transaction in memory of its own.
func cloned(x api.Tx) api.Tx {
	x.Data, x.Access, x.BlobHashes, x.Auths = slices.Clone(x.Data), slices.Clone(x.Access), slices.Clone(x.BlobHashes), slices.Clone(x.Auths)
	for i := range x.Access {
		x.Access[i].Keys = slices.Clone(x.Access[i].Keys)
	}
	return x
}

// isNothing tells whether a transaction is the zero value (P0.2).
func isNothing(x api.Tx) bool { return tx.Same(x, api.Tx{}) }

type fault struct {
	e   api.Errno
	put func(*api.Tx)
}

// faults tells what tx.Draft may find wrong in a type, in the order in which it looks; each may be put beside the others.
func faults(kind int) []fault {
	all := []fault{
		{api.ErrTxType, func(x *api.Tx) { x.Type += 5 }},
		{api.ErrTxField, func(x *api.Tx) {
			if kind < 2 {
				x.Tip[3] = 1
			} else {
				x.Price[3] = 1
			}
		}},
		{api.ErrTxChain, func(x *api.Tx) { x.Chain = 1 << 63 }},
	}
	if kind >= 3 {
		all = append(all, fault{api.ErrTxTo, func(x *api.Tx) { x.Create, x.To = true, nobody }})
	}
	if kind == 3 {
		all = append(all, fault{api.ErrTxEmpty, func(x *api.Tx) { x.BlobHashes = nil }})
	}
	if kind == 4 {
		all = append(all, fault{api.ErrAuth, func(x *api.Tx) { x.Auths = append(slices.Clone(x.Auths), api.Auth{Parity: 256}) }})
	}
	return all
}

// eachSet hands over all sets of faults and the error that is named first of a set's (OK: of none).
func eachSet(all []fault, f func(put func(*api.Tx), want api.Errno)) {
	for set := range 1 << len(all) {
		want := api.OK
		for i, one := range slices.Backward(all) {
			if set>>i&1 == 1 {
				want = one.e
			}
		}
		f(func(x *api.Tx) {
			for i, one := range slices.Backward(all) {
				if set>>i&1 == 1 {
					one.put(x)
				}
			}
		}, want)
	}
}

// filled tells a transaction with so much Data that what the size is asked of has just so many bytes.
func filled(t *testing.T, x api.Tx, size int, sizeOf func(api.Tx) int) api.Tx {
	t.Helper()
	x.Data = make([]byte, 1<<20) // so the heads of the text and of the list have their full lengths, or nearly
	for range 3 {
		x.Data = make([]byte, len(x.Data)+size-sizeOf(x))
	}
	if got := sizeOf(x); got != size {
		t.Fatalf("%d bytes, not %d", got, size)
	}
	return x
}

// The helpers themselves: an error in them would hide one in the program.
func TestHelpers(t *testing.T) {
	row := chance.Row(1600)
	for range 200 {
		if x := row.Number(); narrow(wide(x)) != x {
			t.Errorf("%x is not there and back", x)
		}
		a, b := anyInside(&row), anyInside(&row)
		product := new(big.Int).Mul(wide(over(a, b)), wide(b))
		if narrow(product.Mod(product, order())) != a || wide(opposite(a)).Cmp(new(big.Int).Sub(order(), wide(a))) != 0 {
			t.Errorf("over, opposite: %x, %x", a, b)
		}
		if e := ecdsa.Check(anySig(&row)); e != api.OK {
			t.Errorf("anySig: %d", e)
		}
	}
	if got := modelBytes(list(text('c', 'a', 't'), text(), text(0x7f), text(0x80), list())); !bytes.Equal(got, digits("c9 83636174 80 7f 8180 c0")) {
		t.Errorf("modelBytes: %x", got)
	}
	if new(big.Int).Add(half(), half()).Cmp(wide(near(order(), -1))) != 0 {
		t.Error("half")
	}
	for kind := range kinds {
		if e := tx.Draft(plain(kind)); e != api.OK {
			t.Errorf("the least one of type %d: %d", kind, e)
		}
		for range 200 {
			x := anyDraft(&row, kind)
			if e := tx.Draft(x); e != api.OK || !tx.Same(x, cloned(x)) {
				t.Errorf("anyDraft of type %d: %d", kind, e)
			}
		}
		eachSet(faults(kind), func(put func(*api.Tx), want api.Errno) {
			x := anyDraft(&row, kind)
			put(&x)
			if e := tx.Draft(x); e != want {
				t.Errorf("faults of type %d: %d, want %d", kind, e, want)
			}
		})
	}
	if a, _ := address.OfKey(one); !bytes.Equal(a[:], digits("7e5f4552091a69125d5dfcb7b8c2659029395bdf")) {
		t.Errorf("the address of the key 1: %x", a)
	}
}
