package utf

import (
	"encoding/json"
	"math/rand"
	"strings"
	"testing"
	"unicode/utf8"

	"portolan/api"
)

func TestP15_1Valid(t *testing.T) {
	edges := []byte{0, 0x7f, 0x80, 0x8f, 0x90, 0x9f, 0xa0, 0xbf, 0xc0}
	for a := range 256 {
		for _, b := range edges {
			for _, c := range edges {
				for _, d := range []byte{'x', 0x7f, 0x80, 0xbf, 0xc0} {
					all := string([]byte{byte(a), b, c, d})
					for n := 1; n <= 4; n++ {
						if s := all[:n]; Valid(s) != utf8.ValidString(s) {
							t.Fatalf("%x", s)
						}
					}
				}
			}
		}
	}
	if !Valid("") || !Valid("aé€😀") || Valid("aé€😀"[:9]) || Valid("a\xed\xa0\x80") || !Valid("\xf4\x8f\xbf\xbf") || Valid("\xf4\x90\x80\x80") {
		t.Error("Valid")
	}
}

func TestP15_1Hex(t *testing.T) {
	for c := range 256 {
		want := strings.IndexByte("0123456789abcdef", byte(c))
		if want < 0 {
			want = strings.IndexByte("0123456789ABCDEF", byte(c))
		}
		if Hex(byte(c)) != want {
			t.Error(c, Hex(byte(c)))
		}
	}
}

func TestP15_2Quote(t *testing.T) {
	for s, want := range map[string]string{
		"":                         `""`,
		"a/é\x7f":                  "\"a/é\x7f\"",
		"\"\\":                     `"\"\\"`,
		"\b\t\n\f\r":               `"\b\t\n\f\r"`,
		"\x00\x01\x07\x0b\x0e\x1f": `"\u0000\u0001\u0007\u000b\u000e\u001f"`,
		" !":                       `" !"`,
		"\u2028<>&":                "\"\u2028<>&\"",
		"\xff":                     "",
		"a\xe2\x82":                "",
	} {
		if Quote(s) != want {
			t.Errorf("%q: %s", s, Quote(s))
		}
	}
}

func TestP15_3Unquote(t *testing.T) {
	for _, c := range []struct {
		b    string
		at   int
		s    string
		next int
		e    api.Errno
	}{
		{`"\u00e9"`, 0, "é", 8, api.OK},
		{`x"ab"y`, 1, "ab", 5, api.OK},
		{`""`, 0, "", 2, api.OK},
		{`"\"\\\/\b\f\n\r\t"`, 0, "\"\\/\b\f\n\r\t", 18, api.OK},
		{`"\uD83D\uDe00"`, 0, "😀", 14, api.OK},
		{`" \ud800\udc00"`, 0, " \U00010000", 15, api.OK},
		{`"\uDBFF\udfff\ud7ff\ue000\uffff\u0000"`, 0, "\U0010ffff\ud7ff\ue000\uffff\x00", 38, api.OK},
		{"\"é\x7f\"", 0, "é\x7f", 5, api.OK},
		{`"a"`, -1, "", 0, api.ErrRange},
		{`"a"`, 4, "", 0, api.ErrRange},
		{`"a"`, -1 << 63, "", 0, api.ErrRange},
		{`"a"`, 3, "", 0, api.ErrShort},
		{`"a"`, 1, "", 0, api.ErrForm},
		{"", 0, "", 0, api.ErrShort},
		{`"`, 0, "", 0, api.ErrShort},
		{`"a`, 0, "", 0, api.ErrShort},
		{"\"\xff", 0, "", 0, api.ErrShort},
		{"\"\xff\"", 0, "", 0, api.ErrForm},
		{"\"\x1f", 0, "", 0, api.ErrForm},
		{"\"\n\"", 0, "", 0, api.ErrForm},
		{`"\`, 0, "", 0, api.ErrShort},
		{`"\a`, 0, "", 0, api.ErrForm},
		{`"\U0041"`, 0, "", 0, api.ErrForm},
		{`"\u004`, 0, "", 0, api.ErrShort},
		{`"\u004"`, 0, "", 0, api.ErrForm},
		{`"\ug`, 0, "", 0, api.ErrForm},
		{`"\udc00`, 0, "", 0, api.ErrForm},
		{`"\udfff"`, 0, "", 0, api.ErrForm},
		{`"\ud800`, 0, "", 0, api.ErrShort},
		{`"\ud800"`, 0, "", 0, api.ErrForm},
		{`"\ud800\`, 0, "", 0, api.ErrShort},
		{`"\ud800\n`, 0, "", 0, api.ErrForm},
		{`"\ud800\u`, 0, "", 0, api.ErrShort},
		{`"\ud800\udc0`, 0, "", 0, api.ErrShort},
		{`"\ud800\u00`, 0, "", 0, api.ErrShort},
		{`"\ud800\u0041`, 0, "", 0, api.ErrForm},
		{`"\ud800\ue000"`, 0, "", 0, api.ErrForm},
		{`"\ud800\udbff"`, 0, "", 0, api.ErrForm},
		{`"\ud800\udcx`, 0, "", 0, api.ErrForm},
		{"\"\xc3\\u00a9\"", 0, "", 0, api.ErrForm},
	} {
		if s, next, e := Unquote(c.b, c.at); s != c.s || next != c.next || e != c.e {
			t.Errorf("%q %d: %q %d %d", c.b, c.at, s, next, e)
		}
	}
}

func TestP15_3Library(t *testing.T) {
	rnd := rand.New(rand.NewSource(15))
	parts := []string{"a", "é", `\n`, `\u0041`, `\ud83d`, `\ude00`, `\`, `"`, "\x01", `\/`, `\x`, "u00"}
	for range 20000 {
		b := `"`
		for range rnd.Intn(6) {
			b += parts[rnd.Intn(len(parts))]
		}
		b += `"`
		s, next, e := Unquote(b, 0)
		var want string
		err := json.Unmarshal([]byte(b), &want)
		// the library takes halves of pairs
		if e == api.OK && next == len(b) && (err != nil || s != want) || e != api.OK && err == nil && !strings.Contains(want, "\ufffd") {
			t.Fatalf("%s: %q %d, %q %v", b, s, e, want, err)
		}
	}
}

func TestP15_4RoundTrip(t *testing.T) {
	rnd := rand.New(rand.NewSource(16))
	for range 5000 {
		s := ""
		for range rnd.Intn(10) {
			s += string(rune(rnd.Intn(1 << uint(1+rnd.Intn(20)))))
		}
		q := Quote(s)
		if got, next, e := Unquote("x"+q+"y", 1); got != s || next != 1+len(q) || e != api.OK {
			t.Fatalf("%q: %q %d %d", s, got, next, e)
		}
		if !json.Valid([]byte(q)) {
			t.Fatal(q)
		}
	}
}
