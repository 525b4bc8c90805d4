package wire

import (
	"waybill/api"
	"waybill/bloom"
	"waybill/receipt"
)

// Bloom tells the union of the receipts' blooms, as they stand there.
func Bloom(l ...api.Receipt) api.Bloom {
	blooms := make([]api.Bloom, len(l))
	for i := range l {
		blooms[i] = l[i].Bloom
	}
	return bloom.Union(blooms...)
}

// Filter tells the places of the receipts that have a log of one of the addresses with, place by place, one of the topics.
func Filter(l []api.Receipt, addresses []api.Address, topics [][]api.Hash) ([]int, api.Errno) {
	if isTooMany(l) {
		return nil, api.ErrBkCount
	}
	for _, r := range l {
		if e := receipt.Check(r); e != api.OK {
			return nil, e
		}
	}
	if len(topics) > api.MaxTopics {
		return nil, api.ErrArg
	}
	var places []int
	for i, r := range l {
		if len(receipt.Find(r.Logs, addresses, topics)) > 0 {
			places = append(places, i)
		}
	}
	return places, api.OK
}
