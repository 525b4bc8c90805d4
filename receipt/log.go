package receipt

import (
	"bytes"
	"slices"

	"waybill/api"
	"waybill/bloom"
	"waybill/rlp"
)

const (
	logFields = 3
	logLeast  = 23 // bytes of a log without topics and data: no log has fewer beside these
	topicSize = 33 // bytes of a topic, its head among them
)

// LogItem tells the RLP item of a log.
func LogItem(l api.Log) (api.Item, api.Errno) {
	if hasManyTopics(l) {
		return api.Item{}, api.ErrRcTopics
	}
	if leastSize(l) > api.MaxInput { // ahead of copying what is far too long
		return api.Item{}, api.ErrLong
	}
	topics := make([]api.Item, len(l.Topics))
	for i, topic := range l.Topics {
		topics[i] = rlp.Text(topic[:])
	}
	item := listOf(rlp.Text(l.Address[:]), listOf(topics...), rlp.Text(l.Data))
	if e := rlp.Check(item); e != api.OK {
		return api.Item{}, e
	}
	return item, api.OK
}

func hasManyTopics(l api.Log) bool { return len(l.Topics) > api.MaxTopics }

// leastSize tells a number of bytes that a log's item has in any case.
func leastSize(l api.Log) int { return logLeast + len(l.Topics)*topicSize + len(l.Data) }

// listOf tells a list of items that nobody else holds; rlp.List would copy all that stands in them.
func listOf(items ...api.Item) api.Item { return api.Item{List: true, Items: items} }

// logsItem makes the list of the logs' items; ErrLong: it alone would be too long.
func logsItem(logs []api.Log) (api.Item, api.Errno) {
	var items []api.Item
	room := api.MaxInput
	for _, l := range logs {
		room -= leastSize(l)
		if room < 0 { // ahead of making a tree that is far too great
			return api.Item{}, api.ErrLong
		}
		item, e := LogItem(l)
		if e != api.OK {
			return api.Item{}, e
		}
		items = append(items, item)
	}
	return listOf(items...), api.OK
}

// ParseLog reads the item of a log.
func ParseLog(item api.Item) (api.Log, api.Errno) {
	fields, e := itemsOf(item)
	if e != api.OK || len(fields) != logFields {
		return api.Log{}, api.ErrRcField
	}
	in, l := reader{items: fields}, api.Log{}
	copy(l.Address[:], in.fixed(len(l.Address)))
	l.Topics = in.topics()
	l.Data = in.text()
	in.checkTopics(l)
	if in.e != api.OK {
		return api.Log{}, in.e
	}
	return l, api.OK
}

// BloomOf tells the bloom of logs.
func BloomOf(logs []api.Log) api.Bloom {
	var b api.Bloom
	for _, l := range logs {
		b = bloom.Add(b, l.Address[:])
		for _, topic := range l.Topics {
			b = bloom.Add(b, topic[:])
		}
	}
	return b
}

// copies tells the logs again, in memory of their own.
func copies(logs []api.Log) []api.Log {
	var all []api.Log
	for _, l := range logs {
		all = append(all, api.Log{Address: l.Address, Topics: slices.Clone(l.Topics), Data: bytes.Clone(l.Data)})
	}
	return all
}
