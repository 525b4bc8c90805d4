package keccak

import "waybill/api"

const rate = 136 // bytes of a block

// Sponge takes a text in pieces. It holds no bytes of them: they are in the lanes at once, so that a copy of the struct is a sponge of its own.
type Sponge struct {
	kind  int
	lanes [25]uint64
	taken int
}

// New makes a sponge: api.SpongeKeccak or api.SpongeSha3.
func New(kind int) (*Sponge, api.Errno) {
	if kind != api.SpongeKeccak && kind != api.SpongeSha3 {
		return nil, api.ErrArg
	}
	return &Sponge{kind: kind}, api.OK
}

// Write takes more bytes in.
func (s *Sponge) Write(data []byte) {
	if s == nil {
		return
	}
	for len(data) > 0 {
		place := s.taken % rate
		piece := data[:min(len(data), rate-place)]
		for i, b := range piece {
			mix(&s.lanes, place+i, b)
		}
		s.taken += len(piece)
		data = data[len(piece):]
		if s.taken%rate == 0 {
			s.lanes = Permute(s.lanes)
		}
	}
}

// Len tells how many bytes have been taken in.
func (s *Sponge) Len() int {
	if s == nil {
		return 0
	}
	return s.taken
}

// Sum tells the digest of all bytes so far; more may follow.
func (s *Sponge) Sum() api.Hash {
	if s == nil {
		return api.Hash{}
	}
	lanes := s.lanes // the filling goes into a copy: the sponge is left as it is
	mix(&lanes, s.taken%rate, s.first())
	mix(&lanes, rate-1, 0x80)
	return squeeze(Permute(lanes))
}

// Reset forgets all bytes.
func (s *Sponge) Reset() {
	if s == nil {
		return
	}
	*s = Sponge{kind: s.kind}
}

// Copy makes another sponge that has taken in the same bytes.
func (s *Sponge) Copy() *Sponge {
	if s == nil {
		return nil
	}
	twin := *s
	return &twin
}

// first tells the byte that begins the filling.
func (s *Sponge) first() byte {
	if s.kind == api.SpongeSha3 {
		return 0x06
	}
	return 0x01
}

// mix puts a byte into the lanes, at its place in the block.
func mix(lanes *[25]uint64, place int, b byte) {
	lanes[place/8] ^= uint64(b) << (place % 8 * 8)
}

// squeeze tells the digest that stands in the lanes.
func squeeze(lanes [25]uint64) api.Hash {
	var h api.Hash
	for i := range h {
		h[i] = byte(lanes[i/8] >> (i % 8 * 8))
	}
	return h
}
