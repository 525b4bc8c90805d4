package pool

import (
	"bytes"
	"math"
	"slices"

	"waybill/api"
	"waybill/fees"
	"waybill/keccak"
	"waybill/signing"
	"waybill/tx"
	"waybill/u256"
)

// Add takes a transaction's bytes in, and tells its hash.
func (p *Pool) Add(raw []byte) (api.Hash, api.Errno) {
	if p == nil {
		return api.Hash{}, api.ErrArg
	}
	x, e := p.read(raw)
	if e != api.OK {
		return api.Hash{}, e
	}
	if e := p.check(x); e != api.OK {
		return api.Hash{}, e
	}
	goes, e := p.yielding(x)
	if e != api.OK {
		return api.Hash{}, e
	}
	if goes != nil {
		p.remove(goes)
	}
	p.insert(x)
	return x.hash, api.OK
}

// read makes an entry of the bytes of a new transaction, if it is one for this chain, and somebody's.
func (p *Pool) read(raw []byte) (*entry, api.Errno) {
	t, e := tx.Decode(raw)
	if e != api.OK {
		return nil, e
	}
	hash := keccak.Sum(raw)
	if p.Has(hash) {
		return nil, api.ErrPoolKnown
	}
	if chain, bound, _ := signing.Protected(t); bound && chain != p.chain { // can't fail: Decode has taken it
		return nil, api.ErrPoolChain
	}
	from, e := signing.Sender(t)
	if e != api.OK {
		return nil, api.ErrPoolSender
	}
	return &entry{Tx: t, raw: bytes.Clone(raw), hash: hash, sender: from}, api.OK
}

// check looks at what is wrong with a transaction whatever else waits.
func (p *Pool) check(x *entry) api.Errno {
	if e := fees.Enough(x.Tx); e != api.OK {
		return e
	}
	switch {
	case x.Gas > p.limit:
		return api.ErrPoolLimit
	case u256.Cmp(x.Tip, x.Cap) > 0: // the types that have neither have two zeros there
		return api.ErrFeeTip
	case x.Nonce < p.senders[x.sender].next || x.Nonce == math.MaxUint64:
		return api.ErrPoolNonce
	}
	return api.OK
}

// yielding tells which one must go for a new one (nil: none), if that may come in beside those that wait.
func (p *Pool) yielding(x *entry) (*entry, api.Errno) {
	s := p.senders[x.sender]
	at, taken := s.place(x.Nonce)
	if taken && !x.outbids(s.waiting[at]) {
		return nil, api.ErrPoolPrice
	}
	cost, e := fees.Cost(x.Tx)
	x.cost = cost
	switch {
	case e != api.OK || !s.affords(x):
		return nil, api.ErrPoolFunds
	case taken:
		return s.waiting[at], api.OK
	case p.Len() < p.room:
		return nil, api.OK
	}
	least := p.cheapest()
	if u256.Cmp(x.feeCap(), least.feeCap()) <= 0 {
		return nil, api.ErrPoolFull
	}
	return least, api.OK
}

// cheapest tells the one that must go first of a pool in which something waits. Of a sender that can be the last one alone: whatever else went would hold up those behind it.
func (p *Pool) cheapest() *entry {
	var lasts []*entry
	for _, s := range p.senders {
		if n := len(s.waiting); n > 0 {
			lasts = append(lasts, s.waiting[n-1])
		}
	}
	return slices.MinFunc(lasts, byWorth)
}
