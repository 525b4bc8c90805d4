package sha

import "waybill/api"

// Hasher takes a text in pieces. It holds no more than the bytes of a block that is not yet full, in an array, so that a copy of the struct is a hasher of its own.
type Hasher struct {
	state [8]uint32 // behind the full blocks; what it is ahead of the first one counts for nothing
	block [size]byte
	taken int
}

// New makes a hasher that has taken in nothing.
func New() *Hasher { return &Hasher{} }

// Write takes more bytes in.
func (h *Hasher) Write(data []byte) {
	if h == nil {
		return
	}
	for len(data) > 0 {
		n := copy(h.block[h.taken%size:], data)
		data = data[n:]
		h.taken += n
		if h.taken%size == 0 {
			h.close()
		}
	}
}

// close takes the full block into the state.
func (h *Hasher) close() {
	if h.taken == size { // the first block: the zero value of the type knows no start
		h.state = Start()
	}
	h.state, _ = Compress(h.state, h.block[:])
	h.block = [size]byte{} // no byte is held longer than it is needed
}

// Len tells how many bytes have been taken in.
func (h *Hasher) Len() int {
	if h == nil {
		return 0
	}
	return h.taken
}

// Sum tells the SHA-256 of all bytes so far; more may follow.
func (h *Hasher) Sum() api.Hash {
	if h == nil {
		return api.Hash{}
	}
	filled := *h // the filling goes into a copy: the hasher is left as it is
	filling, _ := Pad(h.taken)
	filled.Write(filling)
	var digest api.Hash
	for i := range digest {
		digest[i] = byte(filled.state[i/4] >> (24 - i%4*8))
	}
	return digest
}

// Reset forgets all bytes.
func (h *Hasher) Reset() {
	if h == nil {
		return
	}
	*h = Hasher{}
}

// Copy makes another hasher that has taken in the same bytes.
func (h *Hasher) Copy() *Hasher {
	if h == nil {
		return nil
	}
	twin := *h
	return &twin
}
