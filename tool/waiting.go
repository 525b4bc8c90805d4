package tool

import (
	"waybill/api"
	"waybill/hexa"
	"waybill/pool"
	"waybill/u256"
)

func poolCommands() map[string]command {
	return map[string]command{
		"pool":     {"UNUI", playPool},
		"fund":     {"AUN", pooled(playFund)},
		"poolbase": {"N", pooled(func(d *desk, v []value) (string, api.Errno) { return done(d.pool.SetBase(v[0].number)) })},
		"submit":   {"D", pooled(func(d *desk, v []value) (string, api.Errno) { return okHash(d.pool.Add(v[0].data)) })},
		"ready":    {"U", pooled(playReady)},
		"drop":     {"H", pooled(func(d *desk, v []value) (string, api.Errno) { return done(d.pool.Drop(v[0].hash)) })},
		"mined":    {"h", pooled(playMined)},
	}
}

// pooled makes of what is done with the pool what is done, if there is one.
func pooled(play action) action {
	return func(d *desk, v []value) (string, api.Errno) {
		if d.pool == nil {
			return "", api.ErrName
		}
		return play(d, v)
	}
}

// playPool leaves the pool that is there, if the new one is refused.
func playPool(d *desk, v []value) (string, api.Errno) {
	p, e := pool.New(v[0].small, v[1].number, v[2].small, int(v[3].small))
	if e != api.OK {
		return "", e
	}
	d.pool = p
	return done(api.OK)
}

func playFund(d *desk, v []value) (string, api.Errno) {
	return done(d.pool.SetAccount(v[0].address, v[1].small, v[2].number))
}

func playReady(d *desk, v []value) (string, api.Errno) {
	return each(d.pool.Ready(v[0].small), waitingLine), api.OK
}

func waitingLine(w api.Waiting) string {
	return hexa.HashText(w.Hash) + " " + hexa.Checksum(w.Sender) + " " + count(w.Nonce) + " " + u256.Text(w.Tip)
}

func playMined(d *desk, v []value) (string, api.Errno) {
	hashes := make([]api.Hash, len(v))
	for i := range v {
		hashes[i] = v[i].hash
	}
	return okay(count(d.pool.Mined(hashes))), api.OK
}
