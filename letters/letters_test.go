package letters_test

import (
	"bytes"
	"encoding/base64"
	"math/rand"
	"strings"
	"testing"

	"hustings/letters"
)

func oracle(forURL bool) *base64.Encoding {
	if forURL {
		return base64.RawURLEncoding.Strict()
	}
	return base64.RawStdEncoding.Strict()
}

func TestExamples(t *testing.T) {
	for s, want := range map[string]string{"": "", "f": "Zg", "fo": "Zm8", "foo": "Zm9v", "foob": "Zm9vYg", "fooba": "Zm9vYmE", "foobar": "Zm9vYmFy"} {
		for _, forURL := range []bool{false, true} {
			if got := letters.Encode([]byte(s), forURL); got != want {
				t.Errorf("Encode(%q, %v) = %q, want %q", s, forURL, got, want)
			}
			if b, ok := letters.Decode(want, forURL); !ok || string(b) != s {
				t.Errorf("Decode(%q, %v) = %q, %v", want, forURL, b, ok)
			}
		}
	}
	if got := letters.Encode([]byte{0xfb, 0xff}, false); got != "+/8" {
		t.Errorf("plain: %q", got)
	}
	if got := letters.Encode([]byte{0xfb, 0xff}, true); got != "-_8" {
		t.Errorf("for URLs: %q", got)
	}
	if letters.Encode(nil, false) != "" || letters.Encode([]byte{}, true) != "" {
		t.Error("no bytes have letters")
	}
}

// Every group of six bits has its letter, in the order of the alphabet.
func TestAlphabet(t *testing.T) {
	const common = "ABCDEFGHIJKLMNOPQRSTUVWXYZabcdefghijklmnopqrstuvwxyz0123456789"
	for _, forURL := range []bool{false, true} {
		signs := common + "+/"
		if forURL {
			signs = common + "-_"
		}
		for i := range 64 {
			b := []byte{byte(i << 2), 0, 0}
			want := signs[i:i+1] + "AAA"
			if got := letters.Encode(b, forURL); got != want {
				t.Errorf("Encode(%x, %v) = %q, want %q", b, forURL, got, want)
			}
			if got, ok := letters.Decode(want, forURL); !ok || !bytes.Equal(got, b) {
				t.Errorf("Decode(%q, %v) = %x, %v", want, forURL, got, ok)
			}
		}
	}
}

func TestThereAndBack(t *testing.T) {
	rnd := rand.New(rand.NewSource(1))
	for n := range 300 {
		b := make([]byte, n)
		rnd.Read(b)
		for _, forURL := range []bool{false, true} {
			s := letters.Encode(b, forURL)
			if want := oracle(forURL).EncodeToString(b); s != want {
				t.Fatalf("Encode(%x, %v) = %q, want %q", b, forURL, s, want)
			}
			if len(s) != letters.Len(n) {
				t.Fatalf("Len(%d) = %d, but there are %d letters", n, letters.Len(n), len(s))
			}
			if got, ok := letters.Decode(s, forURL); !ok || !bytes.Equal(got, b) {
				t.Fatalf("Decode(%q, %v) = %x, %v", s, forURL, got, ok)
			}
		}
	}
}

func TestDecodeWrong(t *testing.T) {
	wrong := []string{"Z", "Zh", "Zg==", "Zg=", "Zm9", "Zm9vY", "Zm9vZh", " Zg", "Zg ", "Zg\n", "Z\ng", "\n", "\r", "Zm9v\n", "é", "Zé", "\xff", "Zm9\xff", "Zm\x009v", "\ufffd", "Zm9vYmFyZ", "Zx", "ZmB", "....", "Zm9v=", "=", "AB", "AAB", "A", "AAAAA"}
	for _, s := range wrong {
		for _, forURL := range []bool{false, true} {
			if b, ok := letters.Decode(s, forURL); ok || len(b) != 0 {
				t.Errorf("Decode(%q, %v) = %x, %v", s, forURL, b, ok)
			}
		}
	}
	for _, s := range []string{"-_8", "AAA-", "_AAA"} {
		if b, ok := letters.Decode(s, false); ok || len(b) != 0 {
			t.Errorf("plain Decode(%q) = %x, %v", s, b, ok)
		}
		if _, ok := letters.Decode(s, true); !ok {
			t.Errorf("Decode(%q) for URLs: false", s)
		}
	}
	for _, s := range []string{"+/8", "AAA+", "/AAA"} {
		if b, ok := letters.Decode(s, true); ok || len(b) != 0 {
			t.Errorf("Decode(%q) for URLs = %x, %v", s, b, ok)
		}
		if _, ok := letters.Decode(s, false); !ok {
			t.Errorf("plain Decode(%q): false", s)
		}
	}
}

// Where Decode answers bytes, their letters are the text: so no two texts have the same bytes.
func TestEveryShortText(t *testing.T) {
	signs := "AQgwBZz09+/-_=\n é"
	var walk func(s string, left int)
	walk = func(s string, left int) {
		for _, forURL := range []bool{false, true} {
			b, ok := letters.Decode(s, forURL)
			want, err := oracle(forURL).DecodeString(s)
			right := err == nil && !strings.ContainsAny(s, "\r\n")
			if ok != right || ok && !bytes.Equal(b, want) || !ok && len(b) != 0 {
				t.Fatalf("Decode(%q, %v) = %x, %v; want %x, %v", s, forURL, b, ok, want, right)
			}
			if ok && letters.Encode(b, forURL) != s {
				t.Fatalf("Encode of Decode(%q, %v) is another text", s, forURL)
			}
		}
		if left > 0 {
			for _, r := range signs {
				walk(s+string(r), left-1)
			}
		}
	}
	walk("", 4)
}

func TestLen(t *testing.T) {
	for n, want := range map[int]int{-5: 0, -1: 0, 0: 0, 1: 2, 2: 3, 3: 4, 4: 6, 5: 7, 6: 8, 32: 43, 64: 86, 1 << 30: 1431655766} {
		if got := letters.Len(n); got != want {
			t.Errorf("Len(%d) = %d, want %d", n, got, want)
		}
	}
	if letters.Len(-1<<63) != 0 {
		t.Error("Len of the least number")
	}
}

func TestMemory(t *testing.T) {
	room := []byte("foobar and more")
	before := bytes.Clone(room)
	s := letters.Encode(room[:6], false)
	if !bytes.Equal(room, before) {
		t.Error("Encode changed what it was handed")
	}
	room[0] = 'x'
	if s != "Zm9vYmFy" {
		t.Error("Encode kept what it was handed")
	}
	one, _ := letters.Decode("Zm9vYmFy", false)
	two, _ := letters.Decode("Zm9vYmFy", false)
	one[0] = 'x'
	if string(two) != "foobar" {
		t.Error("two answers of Decode share memory")
	}
	if three, _ := letters.Decode("Zm9vYmFy", false); string(three) != "foobar" {
		t.Error("an answer of Decode hangs on what was written into another")
	}
}
