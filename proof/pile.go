package proof

import (
	"bytes"
	"slices"

	"waybill/api"
	"waybill/keccak"
)

// pile has nodes of unlike bytes that may be asked for in any order, and again.
type pile struct {
	nodes   [][]byte           // in the order in which they came
	places  map[api.Hash][]int // where those with a digest stand: nothing is assumed of Keccak, so there may be several
	size    int                // their bytes, all together
	used    []bool             // of each one: whether it was asked for
	lacking api.Hash           // what was asked for last and is not there
}

func newPile() *pile { return &pile{places: map[api.Hash][]int{}} }

// pileOf tells the pile of some nodes; of those with the same bytes it has the first one.
func pileOf(nodes [][]byte) *pile {
	p := newPile()
	for i, digest := range keccak.Many(nodes) {
		p.add(nodes[i], digest)
	}
	return p
}

// add lays a node down, if none of the same bytes is there.
func (p *pile) add(b []byte, digest api.Hash) {
	for _, i := range p.places[digest] {
		if bytes.Equal(p.nodes[i], b) {
			return
		}
	}
	p.places[digest] = append(p.places[digest], len(p.nodes))
	p.nodes = append(p.nodes, b)
	p.used = append(p.used, false)
	p.size += len(b)
}

func (p *pile) ask(digest api.Hash) ([]byte, api.Errno) {
	places := p.places[digest]
	if len(places) == 0 {
		p.lacking = digest
		return nil, api.ErrProofShort
	}
	p.used[places[0]] = true
	return p.nodes[places[0]], api.OK
}

func (p *pile) allUsed() bool { return !slices.Contains(p.used, false) }
