package tool_test

import (
	"strings"
	"testing"

	"waybill/chance"
)

// P26.4: the addresses and points of keys; keys that are none.
func TestKey(t *testing.T) {
	wantTold(t,
		"key "+one, "ok "+first+" 0x0279be667ef9dcbbac55a06295ce870b07029bfcdb2dce28d959f2815b16f81798",
		"key "+two, "ok "+second+" 0x02c6047f9441ed7d6d3045406e95c07cd85c778e4b8cef3ca7abac09b95c709ee5",
		"key "+last, "ok 0x80C0dbf239224071c59dD8970ab9d542E3414aB2 0x0379be667ef9dcbbac55a06295ce870b07029bfcdb2dce28d959f2815b16f81798",
		"key 0x"+strings.ToUpper(last[2:]), "ok 0x80C0dbf239224071c59dD8970ab9d542E3414aB2 0x0379be667ef9dcbbac55a06295ce870b07029bfcdb2dce28d959f2815b16f81798",
		"key "+nought, "error 60",
		"key "+order, "error 60",
		"key 0x"+strings.Repeat("ff", 32), "error 60",
		"key 0x01", "error 260",
		"key 1", "error 260",
	)
	if got := answer(nil, "key 0x"+strings.Repeat("46", 32)); !strings.HasPrefix(got, "ok 0x9d8A62f656a8d1615C1294fd71e9CFb3E4855A4F 0x024bc2a31265153f07e70e0bab08724e6b85e217f8cd628ceb62974247bb493382") {
		t.Errorf("of EIP-155's key: %s", got)
	}
	if got := answer(nil, "key 0x4c0883a69102937d6231471b5dbb6204fe5129617082792ae468d01a3f362318"); !strings.HasPrefix(got, "ok 0x2c7536E3605D9C16a7a3D7b1898e529396a65c23 0x") {
		t.Errorf("of web3.js's key: %s", got)
	}
}

// P26.4: signatures of digests, with the numbers of chapter 6's second example; whose they are.
func TestSignAndRecover(t *testing.T) {
	abc := "0x4e03657aea45a94fc7d47ba826c8d667c0d1e6e33a64a036ec44f58fa12d6c45"
	odd := "0xe6cbd687d6cda3d7cf8e37214d3128a54196b42400aa1c246952a683462388569eee2ec3d64cb26e0edd6f86b19784552a39a351ea1779cdad6717e820093242"
	even := "0x23f71224a161ea7c281e422f140dfd6378ac16c9159dcc5b0a7723ec46522ee04a8c34cd56b3e2896176b3004d9dd196d577dfca98c5524e59f1727f2e18bc19"
	pad := strings.Repeat("0", 63)
	wantTold(t,
		"sign "+one+" "+abc, "ok "+odd,
		"sign "+two+" "+nothing, "ok "+even,
		"sign "+nought+" "+abc, "error 60",
		"sign "+order+" "+abc, "error 60",
		"sign "+one+" 0x00", "error 260",
		"recover "+abc+" "+odd, "ok "+first,
		"recover "+nothing+" "+even, "ok "+second,
		"recover "+nothing+" 0x"+strings.Repeat("00", 63), "error 260",
		"recover "+nothing+" 0x"+strings.Repeat("00", 65), "error 260",
		"recover "+nothing+" 0x", "error 260",
		"recover "+nothing+" 0x"+strings.Repeat("00", 64), "error 61",
		"recover "+nothing+" 0x"+strings.Repeat("ff", 64), "error 61",
		"recover "+nothing+" 0x"+pad+"1"+strings.Repeat("0", 64), "error 62",
		"recover "+nothing+" 0x"+pad+"1"+"7f"+strings.Repeat("ff", 31), "error 63",
		"recover "+nought+" 0x"+pad+"5"+pad+"1", "error 64",
		"recover "+one+" 0x79be667ef9dcbbac55a06295ce870b07029bfcdb2dce28d959f2815b16f81798"+pad+"1", "error 65",
		"spoke 0x 0x"+strings.Repeat("00", 64), "error 61",
		"spoke 0x 0x"+pad+"1"+"7f"+strings.Repeat("ff", 31), "error 63",
		"spoke 0x 0x"+pad+"5"+pad+"1", "error 64",
		"spoke 0x 0x"+pad+"5", "error 260",
	)
}

// P26.4: messages: that of web3.js's documents, its v of 1c as the bit ahead of s.
func TestPersonal(t *testing.T) {
	key := "0x4c0883a69102937d6231471b5dbb6204fe5129617082792ae468d01a3f362318"
	sig := "0xb91467e570a6466aa9e9876cbcd013baba02900b8979d43fe208a4a4f339f5fde007e74cd82e037b800186422fc2da167c747ef045e5d18a5f5d4300f8e1a029"
	none := answer(nil, "personal "+one+" 0x")
	wantTold(t,
		"personal "+key+" "+told([]byte("Some data")), "ok "+sig,
		"spoke "+told([]byte("Some data"))+" "+sig, "ok 0x2c7536E3605D9C16a7a3D7b1898e529396a65c23",
		"recover 0x1da44b586eb0729ff70a73c326926f6ed5a25f5b056e7f47fbc6e58d86871655 "+sig, "ok 0x2c7536E3605D9C16a7a3D7b1898e529396a65c23",
		"spoke 0x "+none[3:], "ok "+first,
		"personal "+nought+" 0x", "error 60",
		"personal "+order+" 0x00", "error 60",
		"personal 0x "+one, "error 260",
	)
	if got := answer(nil, "spoke 0x00 "+none[3:]); !strings.HasPrefix(got, "ok 0x") || got == "ok "+first {
		t.Errorf("of another message: %s", got)
	}
}

// P26.4: addresses told in their checked case; those of contracts, as EIP-1014 and the chain have them.
func TestAddresses(t *testing.T) {
	sender := "0x6ac7ea33f8831ea9dcc53393aaa88b25a785dbf0"
	zero := "0x0000000000000000000000000000000000000000"
	wantTold(t,
		"address "+strings.ToLower(first), "ok "+first,
		"address 0x"+strings.ToUpper(first[2:]), "ok "+first,
		"address "+first, "ok "+first,
		"address 0x5aaeb6053f3e94c9b9a09f33669435e7ef1beaed", "ok 0x5aAeb6053F3E94C9b9A09f33669435E7Ef1BeAed",
		"address 0x5AAeb6053F3E94C9b9A09f33669435E7Ef1BeAed", "error 260",
		"address "+zero, "ok "+zero,
		"create "+sender+" 0", "ok "+toldCheck(addressIn("0xcd234a471b72ba2f1ccf0a70fcaba648a5eecd8d")),
		"create "+sender+" 1", "ok "+toldCheck(addressIn("0x343c43a37d37dff08ae8c4a11544c718abb4fcf8")),
		"create "+zero+" 128", "ok "+toldCheck(addressIn("0xc1784bd8a0ffebd60d0bc7099dcd811b57f30bc4")),
		"create "+zero+" 18446744073709551615", "ok "+toldCheck(addressIn("0x1262d73ea59d3a661bf8751d16cf1a5377149e75")),
		"create "+zero+" 18446744073709551616", "error 260",
		"create2 "+zero+" "+nought+" 0x00", "ok 0x4D1A2e2bB4F88F0250f26Ffff098B0b30B26BF38",
		"create2 "+zero+" "+nought+" 0x", "ok 0xE33C0C7F7df4809055C3ebA6c09CFe4BaF1BD9e0",
		"create2 0x00000000000000000000000000000000deadbeef 0x00000000000000000000000000000000000000000000000000000000cafebabe 0xdeadbeef", "ok 0x60f3f640a8508fC6a86d45DF051962668E1e8AC7",
		"create2 "+zero+" 0x 0x", "error 260",
	)
}

// P26.4: against the model.
func TestKeysModel(t *testing.T) {
	row := chance.Row(2620)
	var lines []string
	m := newModel()
	for range 40 {
		key, text := told(row.Text(32)), told(row.Text(row.Below(100)))
		sign, personal := "sign "+key+" "+told(row.Text(32)), "personal "+key+" "+text
		sig := strings.TrimPrefix(m.line([]string{sign, personal}[row.Below(2)]), "ok ")
		broken := []byte(sig)
		broken[2+row.Below(len(sig)-2)] = '0'
		lines = append(lines, "key "+key, sign, personal, "recover "+told(row.Text(32))+" "+sig, "spoke "+text+" "+sig, "spoke "+text+" "+string(broken), "recover "+told(row.Text(32))+" "+told(row.Text(64)),
			"create "+told(row.Text(20))+" "+num(row.Next()>>row.Below(65)), "create2 "+told(row.Text(20))+" "+told(row.Text(32))+" "+text)
	}
	wantAnswers(t, lines, m.run(lines))
}
