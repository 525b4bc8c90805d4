package hexa_test

import (
	"bytes"
	"encoding/hex"
	"strings"
	"testing"

	"waybill/api"
	"waybill/chance"
	"waybill/hexa"
)

// P8.1, P8.2: the chapter's examples, no bytes, one byte, several.
func TestDataExamples(t *testing.T) {
	for _, c := range []struct {
		b []byte
		s string
	}{
		{nil, "0x"}, {[]byte{}, "0x"}, {[]byte{0}, "0x00"}, {[]byte{0x0f}, "0x0f"}, {[]byte{0xf0}, "0xf0"}, {[]byte{0xff}, "0xff"},
		{[]byte{0, 0xff}, "0x00ff"}, {[]byte{0x01, 0x23, 0x45, 0x67, 0x89, 0xab, 0xcd, 0xef}, "0x0123456789abcdef"}, {[]byte("0x"), "0x3078"},
	} {
		if s, e := hexa.Data(c.b); s != c.s || e != api.OK {
			t.Errorf("Data(%x) = %q, %v, want %q", c.b, s, e, c.s)
		}
		if b, e := hexa.ParseData(c.s); !bytes.Equal(b, c.b) || e != api.OK {
			t.Errorf("ParseData(%q) = %x, %v, want %x", c.s, b, e, c.b)
		}
	}
	for s, want := range map[string]string{"0xAb": "ab", "0xaB": "ab", "0xAB": "ab", "0xFfFF": "ffff", "0x0123456789ABCDEF": "0123456789abcdef"} {
		if b, e := hexa.ParseData(s); hex.EncodeToString(b) != want || e != api.OK {
			t.Errorf("ParseData(%q) = %x, %v, want %s", s, b, e, want)
		}
	}
}

// P8.2: wrong texts, and which error comes first: a wrong byte ahead of an odd number of digits.
func TestParseDataWrong(t *testing.T) {
	for s, want := range map[string]api.Errno{
		"": api.ErrHexForm, "0": api.ErrHexForm, "x": api.ErrHexForm, "0X": api.ErrHexForm, "0X00": api.ErrHexForm, "00": api.ErrHexForm, "x0": api.ErrHexForm,
		"0xg0": api.ErrHexForm, "0x0g": api.ErrHexForm, "0x 0": api.ErrHexForm, "0x0 ": api.ErrHexForm, " 0x00": api.ErrHexForm, "0x00 ": api.ErrHexForm, "0x00\n": api.ErrHexForm,
		"0x-1": api.ErrHexForm, "0x+1": api.ErrHexForm, "-0x01": api.ErrHexForm, "+0x01": api.ErrHexForm, "0x0_1": api.ErrHexForm, "0x00_1": api.ErrHexForm,
		"0x0x00": api.ErrHexForm, "10x00": api.ErrHexForm, "1x00": api.ErrHexForm, "Ox00": api.ErrHexForm, "ab": api.ErrHexForm, "abcd": api.ErrHexForm, "\x00x00": api.ErrHexForm,
		"0x\x80\x80": api.ErrHexForm, "0x0\xff": api.ErrHexForm, "0x\xef\xbc\x910": api.ErrHexForm, "0x\xb0\xb0": api.ErrHexForm, "\xb0x00": api.ErrHexForm,
		"0xag": api.ErrHexForm, "0xagb": api.ErrHexForm, "0xg": api.ErrHexForm, "0xabg": api.ErrHexForm, "0xgab": api.ErrHexForm, "0x ": api.ErrHexForm,
		"0xa": api.ErrHexOdd, "0x0": api.ErrHexOdd, "0xF": api.ErrHexOdd, "0xabc": api.ErrHexOdd, "0x" + strings.Repeat("1", 65): api.ErrHexOdd,
	} {
		if b, e := hexa.ParseData(s); len(b) != 0 || e != want {
			t.Errorf("ParseData(%q) = %x, %v, want %v", s, b, e, want)
		}
	}
}

// P8.1, P0.7: the greatest input, and one byte more.
func TestDataLong(t *testing.T) {
	row := chance.Row(81)
	b := row.Text(api.MaxInput + 1)
	if s, e := hexa.Data(b); s != "" || e != api.ErrLong {
		t.Errorf("Data of one byte too many = %q, %v", short(s), e)
	}
	b = b[:api.MaxInput]
	s, e := hexa.Data(b)
	if s != "0x"+hex.EncodeToString(b) || e != api.OK {
		t.Errorf("Data of the most bytes = %q, %v", short(s), e)
	}
	if again, e := hexa.ParseData(s); !bytes.Equal(again, b) || e != api.OK {
		t.Errorf("ParseData of the longest text: %d bytes, %v", len(again), e)
	}
}

// P8.2, P0.7: the longest text, and one byte more; that a text is too long comes first of all.
func TestParseDataLong(t *testing.T) {
	longest := "0x" + strings.Repeat("7", 2*api.MaxInput)
	for _, c := range []struct {
		name, s string
		e       api.Errno
	}{
		{"the longest", longest, api.OK},
		{"a digit less", longest[:len(longest)-1], api.ErrHexOdd},
		{"a digit more", longest + "7", api.ErrLong},
		{"two digits more", longest + "77", api.ErrLong},
		{"a wrong byte more", longest + "g", api.ErrLong},
		{"a wrong front and a digit more", "0X" + longest[2:] + "7", api.ErrLong},
		{"a wrong front", "0X" + longest[2:], api.ErrHexForm},
		{"a wrong byte at the first place", "0xg" + longest[3:], api.ErrHexForm},
		{"a wrong byte at the last place", longest[:len(longest)-1] + "g", api.ErrHexForm},
		{"a wrong byte, odd", longest[:len(longest)-2] + "g", api.ErrHexForm},
	} {
		b, e := hexa.ParseData(c.s)
		if e != c.e || e != api.OK && len(b) != 0 {
			t.Errorf("%s: %d bytes, %v, want %v", c.name, len(b), e, c.e)
		}
		if e == api.OK && !bytes.Equal(b, bytes.Repeat([]byte{0x77}, api.MaxInput)) {
			t.Errorf("%s: wrong bytes", c.name)
		}
	}
}

// P8.1, P8.8: all bytes, and texts of all short lengths.
func TestDataModel(t *testing.T) {
	row := chance.Row(82)
	var texts [][]byte
	for c := range 256 {
		texts = append(texts, []byte{byte(c)}, row.Text(c))
	}
	for _, b := range texts {
		s, e := hexa.Data(b)
		if s != "0x"+hex.EncodeToString(b) || e != api.OK {
			t.Errorf("Data(%x) = %q, %v", b, s, e)
		}
		for _, told := range []string{s, "0x" + strings.ToUpper(s[2:]), anyCase(&row, s)} {
			if again, e := hexa.ParseData(told); !bytes.Equal(again, b) || e != api.OK {
				t.Errorf("ParseData(%q) = %x, %v, want %x", told, again, e, b)
			}
		}
	}
}

// P8.7: digests in either case.
func TestHash(t *testing.T) {
	row := chance.Row(83)
	hashes := []api.Hash{{}, {0: 1, 31: 0xab}, {0: 0xff}, {31: 0x0f}, api.Hash(bytes.Repeat([]byte{0xff}, 32))}
	for range 200 {
		hashes = append(hashes, api.Hash(row.Text(32)))
	}
	for _, h := range hashes {
		s := hexa.HashText(h)
		if s != "0x"+hex.EncodeToString(h[:]) {
			t.Errorf("HashText(%x) = %q", h, s)
		}
		for _, told := range []string{s, "0x" + strings.ToUpper(s[2:]), anyCase(&row, s)} {
			if again, e := hexa.ParseHash(told); again != h || e != api.OK {
				t.Errorf("ParseHash(%q) = %x, %v, want %x", told, again, e, h)
			}
		}
	}
}

// P8.7: digits more and fewer, and wrong bytes.
func TestParseHashWrong(t *testing.T) {
	whole := "0x" + strings.Repeat("1aB9", 16)
	wrong := []string{"", "0", "0x", "0x0", "0X" + whole[2:], whole[2:], whole[:65], whole[:64], whole + "0", whole + "00", whole + " ", " " + whole, whole[:65] + "g", "0x" + whole, whole[:2] + " " + whole[3:], whole[:2] + whole, "0x" + strings.Repeat("0", 40), strings.Repeat("0", 66), whole[2:] + "0x"}
	for _, s := range append(wrong, whole+strings.Repeat("0", 1<<20)) {
		if h, e := hexa.ParseHash(s); h != (api.Hash{}) || e != api.ErrHexForm {
			t.Errorf("ParseHash(%q) = %x, %v", short(s), h, e)
		}
	}
}

// P0.3: Data keeps nothing and writes nothing, nor beyond the end; what ParseData answers is new each time.
func TestApart(t *testing.T) {
	row := chance.Row(84)
	for _, n := range []int{0, 1, 32, 1000} {
		b, whole := row.Roomy(n)
		before := bytes.Clone(whole)
		s, _ := hexa.Data(b)
		if !bytes.Equal(whole, before) {
			t.Errorf("Data of %d bytes writes into them", n)
		}
		first, _ := hexa.ParseData(s)
		second, _ := hexa.ParseData(s)
		first = first[:cap(first)]
		for i := range first {
			first[i] ^= 0xff
		}
		clear(whole)
		if third, e := hexa.ParseData(s); !bytes.Equal(second, before[:n]) || !bytes.Equal(third, before[:n]) || e != api.OK {
			t.Errorf("%d bytes: one answer changes with another", n)
		}
	}
}
