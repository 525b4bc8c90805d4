package bloom

import (
	"sync"

	"waybill/api"
)

const batchSize = 64 // so many goroutines run at a time: groups may be many

// Many tells the filter of each group of texts.
func Many(groups [][][]byte) []api.Bloom {
	filters := make([]api.Bloom, len(groups))
	for first := 0; first < len(groups); first += batchSize {
		end := min(first+batchSize, len(groups))
		fill(filters[first:end], groups[first:end])
	}
	return filters
}

// fill makes all filters of a batch at one time.
func fill(filters []api.Bloom, groups [][][]byte) {
	var makers sync.WaitGroup
	for i := range filters {
		makers.Go(func() { filters[i] = Of(groups[i]...) })
	}
	makers.Wait()
}
