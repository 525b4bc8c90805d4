package hexa_test

import (
	"bytes"
	"strings"
	"testing"

	"waybill/api"
	"waybill/chance"
	"waybill/hexa"
)

// checkedTexts are the chapter's, those of EIP-55 (some with capitals alone, some with small letters alone), and texts without letters.
func checkedTexts() []string {
	return []string{
		"0x5aAeb6053F3E94C9b9A09f33669435E7Ef1BeAed", "0x7E5F4552091A69125d5DfCb7b8C2659029395Bdf",
		"0xfB6916095ca1df60bB79Ce92cE3Ea74c37c5d359", "0xdbF03B407c01E7cD3CBea99509d93f8DDDC8C6FB", "0xD1220A0cf47c7B9Be7A2E6BA89F429762e7b9aDb",
		"0x52908400098527886E0F7030069857D2E4169EE7", "0x8617E340B3D01FA5F11F306F4090FD50E238070D",
		"0xde709f2102306220921060314715629080e2fb77", "0x27b1fdb04752bbc536007a920d24acb045561c26",
		"0x0000000000000000000000000000000000000000", "0x1234567890123456789012345678901234567890",
	}
}

// P8.5, P8.6: addresses without letters, with letters all small, all capital and mixed rightly.
func TestChecksumExamples(t *testing.T) {
	for _, s := range checkedTexts() {
		a := address(s[2:])
		if got := hexa.Checksum(a); got != s {
			t.Errorf("Checksum(%x) = %q, want %q", a, got, s)
		}
		for _, told := range []string{s, lower(s), "0x" + strings.ToUpper(s[2:])} {
			if got, e := hexa.ParseAddress(told); got != a || e != api.OK {
				t.Errorf("ParseAddress(%q) = %x, %v, want %x", told, got, e, a)
			}
		}
	}
}

// P8.6: letters mixed wrongly, digits more and fewer, wrong bytes; the form comes ahead of the letters' case.
func TestParseAddressWrong(t *testing.T) {
	small := "0x5aaeb6053f3e94c9b9a09f33669435e7ef1beaed"
	mixed := "0x5aAeb6053F3E94C9b9A09f33669435E7Ef1BeAed"
	wrong := turned(mixed, 4)
	for s, want := range map[string]api.Errno{
		"0x5AAeb6053F3E94C9b9A09f33669435E7Ef1BeAed": api.ErrHexCheck, wrong: api.ErrHexCheck, turned(small, 3): api.ErrHexCheck, turned(mixed, 41): api.ErrHexCheck, turned("0x"+strings.ToUpper(small[2:]), 3): api.ErrHexCheck,
		"": api.ErrHexForm, "0": api.ErrHexForm, "0x": api.ErrHexForm, "0X": api.ErrHexForm, "0X" + small[2:]: api.ErrHexForm, "0X" + mixed[2:]: api.ErrHexForm, small[2:]: api.ErrHexForm, small[2:] + "0x": api.ErrHexForm, strings.ToUpper(small): api.ErrHexForm,
		small[:41]: api.ErrHexForm, small[:40]: api.ErrHexForm, small + "0": api.ErrHexForm, small + "00": api.ErrHexForm, mixed[:41]: api.ErrHexForm, mixed + "0": api.ErrHexForm, wrong[:41]: api.ErrHexForm, wrong + "A": api.ErrHexForm,
		small[:41] + "g": api.ErrHexForm, "0xg" + small[3:]: api.ErrHexForm, small[:20] + " " + small[21:]: api.ErrHexForm, small + " ": api.ErrHexForm, " " + small: api.ErrHexForm, small + "\n": api.ErrHexForm, wrong[:41] + "\xe4": api.ErrHexForm, "0x" + small: api.ErrHexForm,
		"0x" + strings.Repeat("0", 64): api.ErrHexForm, strings.Repeat("0", 42): api.ErrHexForm, small + strings.Repeat("0", 1<<20): api.ErrHexForm,
	} {
		if a, e := hexa.ParseAddress(s); a != (api.Address{}) || e != want {
			t.Errorf("ParseAddress(%q) = %x, %v, want %v", short(s), a, e, want)
		}
	}
}

// P8.5, P8.6, P8.8: against the model, the letters in any case.
func TestAddressModel(t *testing.T) {
	row := chance.Row(86)
	refused := 0
	for range 3000 {
		a := anyAddress(&row)
		s := hexa.Checksum(a)
		if s != modelChecksum(a) {
			t.Fatalf("Checksum(%x) = %q, want %q", a, s, modelChecksum(a))
		}
		for _, told := range []string{s, lower(s), "0x" + strings.ToUpper(s[2:]), anyCase(&row, s)} {
			want, wantE := modelParseAddress(told)
			got, e := hexa.ParseAddress(told)
			if got != want || e != wantE || e == api.OK && got != a {
				t.Fatalf("ParseAddress(%q) = %x, %v, want %x, %v", told, got, e, want, wantE)
			}
			if e == api.ErrHexCheck {
				refused++
			}
		}
	}
	if refused < 1000 {
		t.Errorf("refused but %d times", refused)
	}
}

// P8.9: each letter turned by itself is told, unless all letters then are of one case.
func TestOneLetter(t *testing.T) {
	row := chance.Row(87)
	var all []api.Address
	for _, s := range checkedTexts() {
		all = append(all, address(s[2:]))
	}
	for range 2000 {
		all = append(all, anyAddress(&row))
	}
	refused, taken := 0, 0
	for _, a := range all {
		s := hexa.Checksum(a)
		for i := 2; i < len(s); i++ {
			if !isLetter(s[i]) {
				continue
			}
			told := turned(s, i)
			got, e := hexa.ParseAddress(told)
			if isOneCase(told[2:]) {
				taken++
				if got != a || e != api.OK {
					t.Fatalf("ParseAddress(%q) = %x, %v, want %x", told, got, e, a)
				}
				continue
			}
			refused++
			if got != (api.Address{}) || e != api.ErrHexCheck {
				t.Fatalf("ParseAddress(%q) = %x, %v, want the error of a letter turned", told, got, e)
			}
		}
	}
	if refused < 1000 || taken < 10 {
		t.Errorf("refused %d times, taken %d times", refused, taken)
	}
}

// P8.6: one letter alone is of one case, either way; two are not.
func TestFewLetters(t *testing.T) {
	for i := range 40 {
		one := []byte("0x" + strings.Repeat("1", 40))
		one[2+i] = 'c'
		a := address(string(one[2:]))
		for _, s := range []string{string(one), turned(string(one), 2+i)} {
			if got, e := hexa.ParseAddress(s); got != a || e != api.OK {
				t.Errorf("ParseAddress(%q) = %x, %v, want %x", s, got, e, a)
			}
		}
		two := bytes.Clone(one)
		two[2+(i+1)%40] = 'D'
		want, wantE := modelParseAddress(string(two))
		if got, e := hexa.ParseAddress(string(two)); got != want || e != wantE {
			t.Errorf("ParseAddress(%q) = %x, %v, want %x, %v", two, got, e, want, wantE)
		}
	}
}
