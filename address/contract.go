package address

import (
	"sync"

	"waybill/api"
	"waybill/keccak"
	"waybill/rlp"
)

const (
	lastNonce = 1<<64 - 1
	mostInRow = 4096
	batchSize = 64 // so many goroutines run at a time
)

// Create tells the address of the contract that a sender makes with a nonce.
func Create(sender api.Address, nonce uint64) api.Address {
	text, _ := rlp.Encode(rlp.List(rlp.Text(sender[:]), rlp.Small(nonce))) // of at most 31 bytes: nothing to refuse
	return last20(keccak.Sum(text))
}

// Create2 tells the address of the contract that a maker makes with a salt and code.
func Create2(maker api.Address, salt api.Hash, code []byte) api.Address {
	inner := keccak.Sum(code)
	return last20(keccak.Sum([]byte{0xff}, maker[:], salt[:], inner[:]))
}

// Row tells the addresses of the contracts that a sender makes with so many nonces, from one on.
func Row(sender api.Address, from uint64, count int) ([]api.Address, api.Errno) {
	if count < 0 || count > mostInRow || isPastLast(from, count) {
		return nil, api.ErrArg
	}
	row := make([]api.Address, count)
	for first := 0; first < count; first += batchSize {
		batch := row[first:min(first+batchSize, count)]
		fill(batch, sender, from+uint64(first))
	}
	return row, api.OK
}

// isPastLast tells whether the last of so many nonces would be above 2^64 - 1; that sum itself could wrap round.
func isPastLast(from uint64, count int) bool {
	return count > 0 && uint64(count-1) > lastNonce-from
}

// fill makes all addresses of a batch at one time.
func fill(batch []api.Address, sender api.Address, from uint64) {
	var makers sync.WaitGroup
	for i := range batch {
		makers.Go(func() { batch[i] = Create(sender, from+uint64(i)) })
	}
	makers.Wait()
}
