package receipt

import (
	"slices"

	"waybill/api"
)

// Find tells the numbers of the logs that a filter takes: of one of the addresses, and at each place one of the topics.
func Find(logs []api.Log, addresses []api.Address, topics [][]api.Hash) []int {
	var taken []int
next:
	for n, l := range logs {
		if !takes(addresses, l.Address) || len(l.Topics) < len(topics) {
			continue
		}
		for i, wanted := range topics {
			if !takes(wanted, l.Topics[i]) {
				continue next
			}
		}
		taken = append(taken, n)
	}
	return taken
}

// takes tells whether one of those that are wanted is there; where none is named, any will do.
func takes[T comparable](wanted []T, there T) bool {
	return len(wanted) == 0 || slices.Contains(wanted, there)
}
