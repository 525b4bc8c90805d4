package message_test

import (
	"math"
	"testing"

	"waybill/api"
	"waybill/chance"
	"waybill/message"
)

// P23.7: the chapter's third and fourth examples.
func TestDomainExamples(t *testing.T) {
	_, _, mail := mailValues()
	if h, e := message.DomainHash(mail); h != hash("f2cee375fa42b42143804025fc449deafd50cc031ca257e0b194a650a912090f") || e != api.OK {
		t.Errorf("P23.7: %x, %d", h, e)
	}
	if h, e := message.DomainHash(api.Domain{}); h != hash("6192106f129ce05c9075d319c1fa6ea9b3ae37cbd0c1ef92e2be7137bb07baa1") || e != api.OK {
		t.Errorf("P23.7: %x, %d", h, e)
	}
}

// P23.7, P23.8: a Has that no domain has; its error comes ahead of the others.
func TestWrongHas(t *testing.T) {
	structs, values, mail := mailValues()
	for _, has := range []int{-1, 32, 33, 47, 63, 64, -32, 1 << 30, math.MinInt, math.MaxInt} {
		mail.Has = has
		if h, e := message.DomainHash(mail); h != zero || e != api.ErrArg {
			t.Errorf("P23.7: Has %d: %x, %d", has, h, e)
		}
		if h, e := message.TypedDigest(mail, structs, "Mail", values); h != zero || e != api.ErrArg {
			t.Errorf("P23.8: Has %d: %x, %d", has, h, e)
		}
		if h, e := message.TypedDigest(mail, nil, "", values); h != zero || e != api.ErrArg {
			t.Errorf("P23.8: Has %d, and no struct: %x, %d", has, h, e)
		}
	}
}

// P23.7: every Has; fields that a domain has not count for nothing, those that it has do.
func TestEveryHas(t *testing.T) {
	r := chance.Row(2330)
	digests := map[api.Hash]int{}
	for has := range 32 {
		for range 20 {
			d, other := anyDomain(&r), anyDomain(&r)
			d.Has = has
			want, _ := modelDomain(d)
			if h, e := message.DomainHash(d); h != want || e != api.OK {
				t.Errorf("P23.7: DomainHash(%+v) = %x, %d, want %x", d, h, e, want)
			}
			digests[want] = has
			for i, changed := range changes(d, other) {
				h, e := message.DomainHash(changed)
				if same := h == want; same != (has>>i&1 == 0) && changed != d || e != api.OK {
					t.Errorf("P23.7: Has %d, field %d changed: %v, %d", has, i, same, e)
				}
			}
		}
	}
	if len(digests) < 600 {
		t.Errorf("P23.7: %d digests", len(digests))
	}
}

// changes tells a domain with each of its fields changed alone.
func changes(d, other api.Domain) []api.Domain {
	list := []api.Domain{d, d, d, d, d}
	list[0].Name = other.Name
	list[1].Version = other.Version
	list[2].Chain = other.Chain
	list[3].Contract = other.Contract
	list[4].Salt = other.Salt
	return list
}

// P23.8, P23.9: digests by chance, of right values and spoilt ones, in any order, with structs beside.
func TestDigestsByChance(t *testing.T) {
	r := chance.Row(2331)
	seen := map[api.Errno]int{}
	for range 1000 {
		d, structs := anyDomain(&r), anyStructs(&r)
		d.Has += r.Below(2) * r.Below(2) * r.Below(2) * 32
		name := structs[r.Below(len(structs))].Name
		whole := row(anyValues(&r, structs, name, 0)...)
		if r.Below(3) == 0 {
			spoil(&r, &whole)
		}
		list := append(cloneStructs(structs), structOf("More("+name+"[] back,bool b)"))
		if r.Below(4) == 0 {
			list = spoilStructs(&r, structs)
		}
		want, wantE := modelTyped(d, list, name, whole.Items)
		if got, e := message.TypedDigest(d, shuffled(&r, list), name, whole.Items); got != want || e != wantE {
			t.Fatalf("P23.8: TypedDigest(%+v, %v, %s, %v) = %x, %d, want %x, %d", d, list, name, whole.Items, got, e, want, wantE)
		}
		seen[wantE]++
	}
	for _, e := range []api.Errno{api.OK, api.ErrArg, api.ErrMsgType, api.ErrMsgValue} {
		if seen[e] < 20 {
			t.Errorf("seen: %v", seen)
		}
	}
}
