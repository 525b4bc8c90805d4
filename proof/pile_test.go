package proof

import (
	"bytes"
	"slices"
	"testing"

	"waybill/api"
)

// P13.3, P13.4: unlike texts of one digest, which nobody knows: each is kept, the first one is what is asked for, the others are never asked for.
func TestOneDigest(t *testing.T) {
	digest, other := api.Hash{1}, api.Hash{2}
	p := newPile()
	for _, text := range []string{"a", "b", "a", "b", "c", "b"} {
		p.add([]byte(text), digest)
	}
	p.add([]byte("d"), other)
	if got := bytes.Join(p.nodes, nil); string(got) != "abcd" || p.size != 4 {
		t.Errorf("the pile has %q, %d bytes", got, p.size)
	}
	for range 2 {
		if b, e := p.ask(digest); string(b) != "a" || e != api.OK {
			t.Errorf("ask = %q, %d", b, e)
		}
	}
	if b, e := p.ask(other); string(b) != "d" || e != api.OK {
		t.Errorf("ask = %q, %d", b, e)
	}
	if !slices.Equal(p.used, []bool{true, false, false, true}) || p.allUsed() {
		t.Errorf("asked for: %t", p.used)
	}
	if b, e := p.ask(api.Hash{3}); b != nil || e != api.ErrProofShort || p.lacking != (api.Hash{3}) {
		t.Errorf("ask = %q, %d, lacking %x", b, e, p.lacking)
	}
}
