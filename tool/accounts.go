package tool

import (
	"waybill/api"
	"waybill/hexa"
	"waybill/u256"
)

func stateCommands() map[string]command {
	return map[string]command{
		"mint":      {"AN", func(d *desk, v []value) (string, api.Errno) { return done(d.state.Mint(v[0].address, v[1].number)) }},
		"burn":      {"AN", func(d *desk, v []value) (string, api.Errno) { return done(d.state.Burn(v[0].address, v[1].number)) }},
		"send":      {"AAN", playSend},
		"bump":      {"A", playBump},
		"store":     {"AHN", playStore},
		"load":      {"AH", playLoad},
		"code":      {"AD", func(d *desk, v []value) (string, api.Errno) { return done(d.state.SetCode(v[0].address, v[1].data)) }},
		"account":   {"A", playAccount},
		"destroy":   {"A", func(d *desk, v []value) (string, api.Errno) { return okBool(d.state.Destroy(v[0].address)) }},
		"mark":      {"", func(d *desk, _ []value) (string, api.Errno) { return okay(count(d.state.Snapshot())), api.OK }},
		"back":      {"I", func(d *desk, v []value) (string, api.Errno) { return done(d.state.Revert(int(v[0].small))) }},
		"stateroot": {"", func(d *desk, _ []value) (string, api.Errno) { return okHash(d.state.Root(), api.OK) }},
	}
}

func playSend(d *desk, v []value) (string, api.Errno) {
	return done(d.state.Transfer(v[0].address, v[1].address, v[2].number))
}

func playBump(d *desk, v []value) (string, api.Errno) {
	e := d.state.Bump(v[0].address)
	return okay(count(d.state.Nonce(v[0].address))), e
}

func playStore(d *desk, v []value) (string, api.Errno) {
	return done(d.state.Store(v[0].address, v[1].hash, v[2].number))
}

func playLoad(d *desk, v []value) (string, api.Errno) {
	return okNumber(d.state.Load(v[0].address, v[1].hash), api.OK)
}

func playAccount(d *desk, v []value) (string, api.Errno) {
	a, there := d.state.Account(v[0].address)
	if !there {
		return okay("none"), api.OK
	}
	return okay(count(a.Nonce), u256.Text(a.Balance), hexa.HashText(a.Storage), hexa.HashText(a.Code)), api.OK
}
