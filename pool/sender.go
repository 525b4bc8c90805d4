package pool

import (
	"cmp"
	"slices"

	"waybill/api"
	"waybill/u256"
)

// sender is what the pool knows of an address; a zero one is as good as none.
type sender struct {
	next    uint64
	balance api.U256
	waiting []*entry // by rising nonces
}

func (s sender) isKnown() bool {
	return s.next != 0 || s.balance != api.U256{} || len(s.waiting) > 0
}

// place tells how many of a sender's have a lower nonce, and whether the one behind these has that very nonce.
func (s sender) place(nonce uint64) (int, bool) {
	return slices.BinarySearchFunc(s.waiting, nonce, func(x *entry, nonce uint64) int { return cmp.Compare(x.Nonce, nonce) })
}

// free tells the least nonce from the next one on that none of a sender's has.
func (s sender) free() uint64 {
	nonce := s.next
	for _, x := range s.waiting {
		if x.Nonce != nonce {
			break
		}
		nonce++
	}
	return nonce
}

// affords tells whether a sender can pay for a new one together with all that wait, but for the one whose place it would take.
func (s sender) affords(x *entry) bool {
	left, short := u256.Sub(s.balance, x.cost)
	for i := 0; i < len(s.waiting) && short == 0; i++ {
		if other := s.waiting[i]; other.Nonce != x.Nonce {
			left, short = u256.Sub(left, other.cost)
		}
	}
	return short == 0
}

// settle gives an address its next nonce and its balance; what waits of it with a lower nonce goes.
func (p *Pool) settle(a api.Address, next uint64, balance api.U256) {
	s := p.senders[a]
	used, _ := s.place(next)
	for _, x := range s.waiting[:used] {
		delete(p.byHash, x.hash)
	}
	p.put(a, sender{next, balance, slices.Delete(s.waiting, 0, used)})
}

// put gives an address all that is known of it from then on. Where that is nothing, nothing is kept.
func (p *Pool) put(a api.Address, s sender) {
	if !s.isKnown() {
		delete(p.senders, a)
		return
	}
	if p.senders == nil {
		p.senders = map[api.Address]sender{}
	}
	p.senders[a] = s
}

// insert lets a transaction wait from then on, in a nonce's place that is free.
func (p *Pool) insert(x *entry) {
	p.latest++
	x.number = p.latest
	if p.byHash == nil {
		p.byHash = map[api.Hash]*entry{}
	}
	p.byHash[x.hash] = x
	s := p.senders[x.sender]
	at, _ := s.place(x.Nonce)
	s.waiting = slices.Insert(s.waiting, at, x)
	p.put(x.sender, s)
}

// remove takes out a transaction that waits.
func (p *Pool) remove(x *entry) {
	delete(p.byHash, x.hash)
	s := p.senders[x.sender]
	at, _ := s.place(x.Nonce)
	s.waiting = slices.Delete(s.waiting, at, at+1)
	p.put(x.sender, s)
}
