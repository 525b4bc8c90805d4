package tool

import (
	"waybill/abi"
	"waybill/api"
)

func contractCommands() map[string]command {
	return map[string]command{
		"abitype":  {"W", playType},
		"selector": {"W", playSelector},
		"topic":    {"W", func(_ *desk, v []value) (string, api.Errno) { return okHash(abi.Topic(v[0].word)) }},
	}
}

func playType(_ *desk, v []value) (string, api.Errno) {
	own, e := abi.Type(v[0].word)
	return okay(own), e
}

func playSelector(_ *desk, v []value) (string, api.Errno) {
	selector, e := abi.Selector(v[0].word)
	return okData(selector[:], e)
}
