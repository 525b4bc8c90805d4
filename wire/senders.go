package wire

import (
	"sync"

	"waybill/api"
	"waybill/keccak"
	"waybill/signing"
)

const mostWorkers = 64

// Senders tells the hash of each text's transaction and who has sent it, so many of them at one time as there are workers.
func Senders(texts [][]byte, workers int) ([]api.Sent, api.Errno) {
	switch {
	case workers < 1 || workers > mostWorkers:
		return nil, api.ErrArg
	case isTooMany(texts):
		return nil, api.ErrBkCount
	}
	all := make([]api.Sent, len(texts))
	var group sync.WaitGroup
	for first := range workers {
		group.Go(func() {
			for i := first; i < len(texts); i += workers {
				all[i] = sent(texts[i])
			}
		})
	}
	group.Wait()
	return all, api.OK
}

// sent tells what TxHash and Sender do, and reads the text only once.
func sent(text []byte) api.Sent {
	t, e := DecodeTx(text)
	if e != api.OK {
		return api.Sent{Err: e}
	}
	sender, e := signing.Sender(t)
	return api.Sent{Hash: keccak.Sum(text), Sender: sender, Err: e}
}
