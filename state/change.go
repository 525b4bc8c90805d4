package state

import (
	"bytes"
	"math"

	"waybill/api"
	"waybill/u256"
)

// Mint gives an account more.
func (s *State) Mint(a api.Address, amount api.U256) api.Errno {
	if s == nil {
		return api.ErrArg
	}
	sum, carry := u256.Add(s.Balance(a), amount)
	if carry != 0 {
		return api.ErrStWide
	}
	s.setBalance(a, sum)
	return api.OK
}

// Burn takes something from an account.
func (s *State) Burn(a api.Address, amount api.U256) api.Errno {
	if s == nil {
		return api.ErrArg
	}
	left, borrow := u256.Sub(s.Balance(a), amount)
	if borrow != 0 {
		return api.ErrStFunds
	}
	s.setBalance(a, left)
	return api.OK
}

// Transfer takes something from an account and gives it to another one.
func (s *State) Transfer(from, to api.Address, amount api.U256) api.Errno {
	if s == nil {
		return api.ErrArg
	}
	left, borrow := u256.Sub(s.Balance(from), amount)
	if borrow != 0 {
		return api.ErrStFunds
	}
	if from == to {
		return api.OK
	}
	sum, carry := u256.Add(s.Balance(to), amount)
	if carry != 0 {
		return api.ErrStWide
	}
	s.setBalance(from, left)
	s.setBalance(to, sum)
	return api.OK
}

// Bump raises an account's nonce by one.
func (s *State) Bump(a api.Address) api.Errno {
	if s == nil {
		return api.ErrArg
	}
	nonce := s.Nonce(a)
	if nonce == math.MaxUint64 {
		return api.ErrStNonce
	}
	return s.SetNonce(a, nonce+1)
}

// SetNonce gives an account a nonce.
func (s *State) SetNonce(a api.Address, nonce uint64) api.Errno {
	if s == nil {
		return api.ErrArg
	}
	x := s.at(a)
	x.nonce = nonce
	s.change(a, x)
	return api.OK
}

// SetCode gives an account code.
func (s *State) SetCode(a api.Address, code []byte) api.Errno {
	switch {
	case s == nil:
		return api.ErrArg
	case len(code) > api.MaxInput:
		return api.ErrLong
	}
	x := s.at(a)
	x.code = bytes.Clone(code)
	s.change(a, x)
	return api.OK
}

// Store lays a number into an account's storage.
func (s *State) Store(a api.Address, key api.Hash, v api.U256) api.Errno {
	if s == nil {
		return api.ErrArg
	}
	old := s.Load(a, key)
	s.remember(func(s *State) { s.putCell(a, key, old) })
	s.putCell(a, key, v)
	return api.OK
}

// Destroy takes an account out, with all it has.
func (s *State) Destroy(a api.Address) bool {
	old := s.at(a)
	if !old.isThere() {
		return false
	}
	s.remember(func(s *State) { s.put(a, old) }) // nobody writes into its cells in between: a storage that begins anew is another map
	s.put(a, account{})
	return true
}

func (s *State) setBalance(a api.Address, balance api.U256) {
	x := s.at(a)
	x.balance = balance
	s.change(a, x)
}

// change gives an address another nonce, balance or code. To undo it leaves the cells as they are then: their map may have become another one, and each of them is undone by itself.
func (s *State) change(a api.Address, x account) {
	old := s.at(a)
	s.remember(func(s *State) {
		old.cells = s.at(a).cells
		s.put(a, old)
	})
	s.put(a, x)
}

// put gives an address all that it has from then on. Where that is nothing, nothing is kept: the address is as if it had never been touched.
func (s *State) put(a api.Address, x account) {
	if !x.isThere() {
		delete(s.accounts, a)
		return
	}
	if s.accounts == nil {
		s.accounts = map[api.Address]account{}
	}
	s.accounts[a] = x
}

func (s *State) putCell(a api.Address, key api.Hash, v api.U256) {
	x := s.at(a)
	switch {
	case v == api.U256{}:
		delete(x.cells, key)
	case x.cells == nil:
		x.cells = map[api.Hash]api.U256{key: v}
	default:
		x.cells[key] = v
	}
	s.put(a, x)
}
