package pool

import (
	"cmp"
	"maps"
	"slices"

	"waybill/api"
	"waybill/fees"
	"waybill/u256"
)

// Waiting tells all transactions, by sender and nonce.
func (p *Pool) Waiting() []api.Waiting {
	if p == nil {
		return nil
	}
	var told []api.Waiting
	for _, x := range slices.SortedFunc(maps.Values(p.byHash), bySender) {
		told = append(told, p.tell(x))
	}
	return told
}

// tell tells a transaction with its tip at the pool's base fee; beside an error that is 0.
func (p *Pool) tell(x *entry) api.Waiting {
	_, tip, _ := fees.Price(x.Tx, p.base)
	return api.Waiting{Hash: x.hash, Sender: x.sender, Nonce: x.Nonce, Tip: tip}
}

// candidate is the one of a sender that comes next, while a block is filled.
type candidate struct {
	*entry
	told api.Waiting
	of   sender // as it would be if all of its own that were taken stood in a block and were paid
}

// Ready tells the transactions for the next block, in their order, of so much gas at most.
func (p *Pool) Ready(gas uint64) []api.Waiting {
	if p == nil {
		return nil
	}
	var told []api.Waiting
	var line []*candidate
	for _, s := range p.senders {
		line = p.queue(line, s)
	}
	for len(line) > 0 {
		c := line[0]
		line = line[1:]
		left, short := u256.Sub(c.of.balance, c.cost)
		if u256.Cmp(c.feeCap(), p.base) < 0 || c.Gas > gas || short != 0 {
			continue
		}
		gas -= c.Gas
		told = append(told, c.told)
		line = p.queue(line, sender{c.Nonce + 1, left, c.of.waiting[1:]})
	}
	return told
}

// queue puts a sender's candidate, if it has one, into the line of all candidates.
func (p *Pool) queue(line []*candidate, s sender) []*candidate {
	if len(s.waiting) == 0 || s.waiting[0].Nonce != s.next {
		return line
	}
	c := &candidate{s.waiting[0], p.tell(s.waiting[0]), s}
	at, _ := slices.BinarySearchFunc(line, c, byTurn)
	return slices.Insert(line, at, c)
}

// byTurn is the order in which candidates are looked at: the greatest tip first, of several the one that came first.
func byTurn(x, y *candidate) int {
	return cmp.Or(u256.Cmp(y.told.Tip, x.told.Tip), cmp.Compare(x.number, y.number))
}
