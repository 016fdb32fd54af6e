package quote_test

import (
	"encoding/json"
	"fmt"
	"math/rand"
	"strings"
	"testing"
	"unicode/utf8"

	"hustings/quote"
)

// texts is valid ones, of all kinds of runes.
func texts() []string {
	out := []string{"", "a", `a"b`, `\`, `\\`, `"`, `/`, "\x7f", "\u0080", "\u07ff", "\u0800", "\ud7ff", "\ue000", "\ufffd", "\uffff", "\U00010000", "\U0010ffff", "é", "日本", "\u2028\u2029", "<>&", "a\ufffdb", "\U0001f600"}
	for i := range 0x20 {
		out = append(out, string(rune(i)), "x"+string(rune(i))+"y")
	}
	rnd := rand.New(rand.NewSource(1))
	for range 300 {
		var b strings.Builder
		for range rnd.Intn(20) {
			r := rune(rnd.Intn([]int{0x30, 0x80, 0x800, 0x110000}[rnd.Intn(4)]))
			if utf8.ValidRune(r) {
				b.WriteRune(r)
			}
		}
		out = append(out, b.String())
	}
	return out
}

// broken is bytes that are no text.
func broken() []string {
	return []string{"\xff", "a\x80", "\xc0\x80", "\xc1\xbf", "\xe0\x80\x80", "\xe0\x9f\xbf", "\xed\xa0\x80", "\xed\xbf\xbf", "\xf0\x80\x80\x80", "\xf0\x8f\xbf\xbf", "\xf4\x90\x80\x80", "\xf5\x80\x80\x80", "\xc3", "é\xc3", "\xe2\x82", "\xf0\x9f\x98", "\xef\xbf", "\ufffd\xff", "\xff\ufffd", "\xed\xa0\xbd\xed\xb8\x80", "\x80\x80\x80"}
}

// written is a text between quotes, as the document says it, once more.
func written(s string) string {
	var b strings.Builder
	b.WriteByte('"')
	for _, r := range s {
		switch r {
		case '"', '\\':
			b.WriteString(`\` + string(r))
		case 8:
			b.WriteString(`\b`)
		case 9:
			b.WriteString(`\t`)
		case 10:
			b.WriteString(`\n`)
		case 12:
			b.WriteString(`\f`)
		case 13:
			b.WriteString(`\r`)
		default:
			if r < 0x20 {
				b.WriteString(fmt.Sprintf(`\u%04x`, r))
			} else {
				b.WriteRune(r)
			}
		}
	}
	return b.String() + `"`
}

func TestValid(t *testing.T) {
	for _, s := range texts() {
		if !quote.Valid(s) {
			t.Errorf("%q is no text", s)
		}
	}
	for _, s := range broken() {
		if quote.Valid(s) {
			t.Errorf("%q is a text", s)
		}
	}
	for a := range 256 { // all of up to two bytes, and some more of them
		for b := range 256 {
			for _, s := range []string{string([]byte{byte(a)}), string([]byte{byte(a), byte(b)}), string([]byte{byte(a), byte(b), 0x80}), string([]byte{byte(a), byte(b), 0xbf, 0x80})} {
				if quote.Valid(s) != utf8.ValidString(s) {
					t.Fatalf("Valid(%q) = %v", s, quote.Valid(s))
				}
			}
		}
	}
}

func TestPut(t *testing.T) {
	if s, ok := quote.Put("a\"b\x01é"); !ok || s != `"a\"b\u0001é"` {
		t.Errorf("the example: %s", s)
	}
	for _, s := range texts() {
		if got, ok := quote.Put(s); !ok || got != written(s) {
			t.Errorf("Put(%q) = %s, %v; want %s", s, got, ok, written(s))
		}
	}
	for _, s := range broken() {
		if got, ok := quote.Put(s); ok || got != "" {
			t.Errorf("Put(%q) = %s, %v", s, got, ok)
		}
	}
}

func TestThereAndBack(t *testing.T) {
	for _, s := range texts() {
		q, _ := quote.Put(s)
		for _, ahead := range []string{"", "x", `"`, `"a"`, "\xff"} {
			for _, behind := range []string{"", `"`, "\xff", "x", `\`} {
				got, at, ok := quote.Take(ahead+q+behind, len(ahead))
				if !ok || got != s || at != len(ahead)+len(q) {
					t.Fatalf("Take(%q, %d) = %q, %d, %v", ahead+q+behind, len(ahead), got, at, ok)
				}
			}
		}
		for n := range len(q) { // no beginning of it is one
			if got, at, ok := quote.Take(q[:n], 0); ok || got != "" || at != 0 {
				t.Fatalf("Take(%q) = %q, %d, %v", q[:n], got, at, ok)
			}
		}
	}
}

func TestTake(t *testing.T) {
	for s, want := range map[string]string{
		`"\ud83d\ude00"`:          "\U0001f600",
		`"\uD83D\uDE00"`:          "\U0001f600",
		`"\ud800\udc00"`:          "\U00010000",
		`"\udbff\udfff"`:          "\U0010ffff",
		`"\u0000"`:                "\x00",
		`"\u00e9\u00E9"`:          "éé",
		`"\ud7ff\ue000"`:          "\ud7ff\ue000",
		`"\uffff\ufffd"`:          "\uffff\ufffd",
		`"\"\\\/\b\f\n\r\t"`:      "\"\\/\b\f\n\r\t",
		`"/"`:                     "/",
		`"\u0022"`:                `"`,
		`"\u005c"`:                `\`,
		`"\u005Cu0041"`:           `\u0041`,
		`"\\u0041"`:               `\u0041`,
		`"\u0041\ud83d\ude00b\\"`: "A\U0001f600b\\",
		"\"\x7f\ufffd\"":          "\x7f\ufffd",
		`"aé\u00e9日"`:             "aéé日",
	} {
		if got, at, ok := quote.Take(s, 0); !ok || got != want || at != len(s) {
			t.Errorf("Take(%s) = %q, %d, %v; want %q", s, got, at, ok, want)
		}
	}
	for _, s := range []string{
		``, `a`, `"`, `"a`, `a"`, ` "a"`, `"\"`, `"\`, `"\u`, `"\u"`, `"\u004"`, `"\u00g1"`, `"\u 041"`, `"\U0041"`, `"\u+041"`, `"\u-041"`, `"\u00é"`, `"\u004é"`,
		`"\ud83d"`, `"\ude00"`, `"\ud83dx"`, `"\ud83d\n"`, `"\ud83d\u0041"`, `"\ud83d\ud83d"`, `"\ude00\ud83d"`, `"\ud83d\ude0"`, `"\ud83d\ude0`, `"\ud83d\`, `"\ud83d\u`, `"\ud83d ude00"`, `"\udfff"`, `"\udc00"`, `"\ud800"`, `"\udbff"`, `"\ud83d\ue000"`, `"\ud83d\udbff"`, `"\ud83d\\ude00"`,
		`"\a"`, `"\x41"`, `"\0"`, `"\ "`, `"\é"`, `"\'"`, `"\N"`, `"\B"`, "\"\\\n\"", "\"\n\"", "\"\x00\"", "\"\x1f\"", "\"a\tb\"", "\"\x08", `'a'`,
	} {
		if got, at, ok := quote.Take(s, 0); ok || got != "" || at != 0 {
			t.Errorf("Take(%q) = %q, %d, %v", s, got, at, ok)
		}
	}
	for _, b := range broken() {
		if got, at, ok := quote.Take(`"a`+b+`b"`, 0); ok || got != "" || at != 0 {
			t.Errorf("Take of %q between quotes: %q, %d, %v", b, got, at, ok)
		}
		if got, at, ok := quote.Take(`"\`+b+`"`, 0); ok || got != "" || at != 0 {
			t.Errorf("Take of a backslash and %q between quotes: %q, %d, %v", b, got, at, ok)
		}
	}
}

func TestTakePlaces(t *testing.T) {
	s := `x"a"b"c`
	for at := -3; at < len(s)+3; at++ {
		got, end, ok := quote.Take(s, at)
		switch at {
		case 1:
			if !ok || got != "a" || end != 4 {
				t.Errorf("Take at 1: %q, %d, %v", got, end, ok)
			}
		case 3:
			if !ok || got != "b" || end != 6 {
				t.Errorf("Take at 3: %q, %d, %v", got, end, ok)
			}
		default:
			if ok || got != "" || end != 0 {
				t.Errorf("Take at %d: %q, %d, %v", at, got, end, ok)
			}
		}
	}
	for _, at := range []int{-1 << 63, 1<<63 - 1} {
		if _, _, ok := quote.Take(s, at); ok {
			t.Errorf("Take at %d", at)
		}
	}
}

// What Take answers is a text, and what the library's reader makes of it too.
func TestTakeAgainstLibrary(t *testing.T) {
	rnd := rand.New(rand.NewSource(2))
	parts := []string{"a", "é", `\`, `"`, `\u`, `\ud83d`, `\ude00`, `\uDBFF`, "00e9", `\n`, `\"`, `\\`, "\n", "\xff", "/", `\/`, "\U0001f600", `\u0000`, "d83d", "\ufffd"}
	for range 200000 {
		s := `"`
		for range rnd.Intn(6) {
			s += parts[rnd.Intn(len(parts))]
		}
		s += `"`
		got, at, ok := quote.Take(s, 0)
		if ok && (!quote.Valid(got) || at < 2 || at > len(s) || s[at-1] != '"') {
			t.Fatalf("Take(%q) = %q, %d", s, got, at)
		}
		if !ok {
			continue
		}
		var lib string
		if err := json.Unmarshal([]byte(s[:at]), &lib); err != nil || lib != got {
			t.Fatalf("Take(%q) = %q, the library says %q, %v", s, got, lib, err)
		}
	}
}

// Each byte behind a backslash, and at each place of a rune's number.
func TestEveryByte(t *testing.T) {
	short := map[byte]string{'"': `"`, '\\': `\`, '/': "/", 'b': "\b", 'f': "\f", 'n': "\n", 'r': "\r", 't': "\t"}
	for c := range 256 {
		b := string([]byte{byte(c)})
		got, _, ok := quote.Take(`"\`+b+`"`, 0)
		if c == '"' || c == '\\' { // the quote behind is needed
			got, _, ok = quote.Take(`"\`+b+`""`, 0)
		}
		if want, good := short[byte(c)]; ok != good || got != want {
			t.Errorf("a backslash and %q: %q, %v", b, got, ok)
		}
		for at := range 4 {
			digits := "0000"[:at] + b + "0000"[at+1:]
			value, good := strings.Index("0123456789abcdef", strings.ToLower(b)), strings.Contains("0123456789abcdefABCDEF", b)
			r := rune(value << (4 * (3 - at)))
			good = good && (r < 0xd800 || r > 0xdfff)
			got, _, ok := quote.Take(`"\u`+digits+`"`, 0)
			if ok != good || ok && got != string(r) || !ok && got != "" {
				t.Errorf("the number %q: %q, %v", digits, got, ok)
			}
		}
	}
}

// Halves of runes at their edges, in each order.
func TestHalves(t *testing.T) {
	halves := []rune{0xd7ff, 0xd800, 0xdbff, 0xdc00, 0xdfff, 0xe000}
	for _, a := range halves {
		for _, b := range halves {
			var want []rune
			switch {
			case a >= 0xd800 && a < 0xdc00 && b >= 0xdc00 && b < 0xe000:
				want = []rune{0x10000 + 0x400*(a-0xd800) + (b - 0xdc00)}
			case (a < 0xd800 || a >= 0xe000) && (b < 0xd800 || b >= 0xe000):
				want = []rune{a, b}
			}
			got, _, ok := quote.Take(fmt.Sprintf(`"\u%04x\u%04X"`, a, b), 0)
			if ok != (want != nil) || got != string(want) {
				t.Errorf("%x and %x: %q, %v", a, b, got, ok)
			}
		}
	}
}
