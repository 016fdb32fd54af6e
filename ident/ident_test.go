package ident_test

import (
	"math/rand"
	"regexp"
	"strings"
	"testing"

	"hustings/ident"
	"hustings/letters"
)

// The kinds of names once more, as patterns; an event's last letter has two bits behind the last byte, which are noughts.
var patterns = []*regexp.Regexp{
	regexp.MustCompile(`^[a-z0-9.\-]+(:[0-9]{1,5})?\z`),
	regexp.MustCompile(`^@[a-z0-9._=\-/+]+:[a-z0-9.\-]+(:[0-9]{1,5})?\z`),
	regexp.MustCompile(`^![a-zA-Z0-9_\-]+:[a-z0-9.\-]+(:[0-9]{1,5})?\z`),
	regexp.MustCompile(`^\$[A-Za-z0-9_\-]{42}[AEIMQUYcgkosw048]\z`),
	regexp.MustCompile(`^ed25519:[a-zA-Z0-9_]+\z`),
}

var calls = []func(string) bool{ident.Server, ident.User, ident.Room, ident.Event, ident.Key}

var names = []string{"Server", "User", "Room", "Event", "Key"}

func check(t *testing.T, s string) {
	t.Helper()
	kinds := 0
	for i, is := range calls {
		right := len(s) <= 255 && patterns[i].MatchString(s)
		if is(s) != right {
			t.Errorf("%s(%q) = %v", names[i], s, !right)
		}
		if right {
			kinds++
		}
	}
	if kinds > 1 && !regexp.MustCompile(`^ed25519:[0-9]{1,5}\z`).MatchString(s) {
		t.Errorf("%q is a name of two kinds", s)
	}
	domain := ""
	if _, server, _ := strings.Cut(s, ":"); len(s) <= 255 && (patterns[1].MatchString(s) || patterns[2].MatchString(s)) {
		domain = server
	}
	if ident.Domain(s) != domain {
		t.Errorf("Domain(%q) = %q, want %q", s, ident.Domain(s), domain)
	}
}

func TestNames(t *testing.T) {
	if !ident.User("@ann:a.org") || ident.Domain("@ann:a.org") != "a.org" || !ident.Room("!r1:a.org:8448") || ident.Domain("!r1:a.org:8448") != "a.org:8448" {
		t.Error("the examples that are names")
	}
	for _, s := range []string{"@Ann:a.org", "@ann", "a.org:123456", "ed25519:"} {
		for i, is := range calls {
			if is(s) || ident.Domain(s) != "" {
				t.Errorf("%s(%q)", names[i], s)
			}
		}
	}
	for _, s := range []string{
		"", "a", "A", ".", "-", "a.b-c.0", "a_b", "a:1", "a:12345", "a:123456", "a:", ":1", ":", "a:b", "a:1:2", "a:1:", "a: 1", "a:+1", "a:-1", "a:１", "é", "a\n", "a:1\n", "\na", " a", "a\x00", "a\xff", "::1", "[::1]", "0", "127.0.0.1:80",
		"@", "@a", "@:a", "@a:", "@a:b", "@a:b:1", "@a:b:c", "@a:b:123456", "@a.b_c=d-e/f+0:x", "@A:b", "@a:B", "@a b:c", "@a@b:c", "@é:c", "@a:b\n", "a:b@", "@@a:b", "@a:_", "@a,b:c", "@a*b:c", "@a~:c", "@a:b_c",
		"!", "!a", "!:a", "!a:", "!a:b", "!A_z-9:b:1", "!a.b:c", "!a=b:c", "!a/b:c", "!a+b:c", "!é:b", "!a:B", "!a:b\n", "!a b:c", "!!a:b", "!a:b:1:2", "!a:b:",
		"ed25519:a", "ed25519:1", "ed25519:12345", "ed25519:123456", "ed25519:A_z9", "ed25519:a-b", "ed25519:a.b", "ed25519:a:b", "ed25519:é", "ed25519:a\n", "Ed25519:a", "ed25519", "ed25518:a", "ed25519:a b", " ed25519:a", "ed25519::a",
		"$", "$a", "#a:b",
	} {
		check(t, s)
	}
}

func TestEvents(t *testing.T) {
	good := letters.Encode(make([]byte, 32), true)
	full := letters.Encode([]byte(strings.Repeat("\xff", 32)), true)
	for _, s := range []string{
		"$" + good, "$" + full, good, "$" + good[1:], "$" + good + "A", "$" + good[1:] + "B", "$" + good[1:] + "E", "$" + good[1:] + "I", "$" + good[1:] + "D", "$" + good[1:] + "=", "$" + good[1:] + "\n", "$" + good + "\n", "$" + good[2:] + "é", "$+" + good[1:], "$/" + good[1:], "$-" + good[1:], "$_" + good[1:], "$$" + good, "@" + good, "$" + good[:40] + ".AA", "$" + letters.Encode(make([]byte, 31), true), "$" + letters.Encode(make([]byte, 33), true),
	} {
		check(t, s)
	}
	if !ident.Event("$"+good) || !ident.Event("$"+full) {
		t.Error("letters of 32 bytes")
	}
	for i := range 256 {
		check(t, "$"+good[1:]+string([]byte{byte(i)}))
		check(t, "$"+string([]byte{byte(i)})+good[1:])
	}
}

// At most 255 bytes, of each kind.
func TestLong(t *testing.T) {
	for n := 240; n < 270; n++ {
		a := strings.Repeat("a", n)
		check(t, a)
		check(t, a+":12345")
		check(t, "@"+a+":b")
		check(t, "@a:"+a)
		check(t, "!"+a+":b:1")
		check(t, "!a:"+a)
		check(t, "ed25519:"+a)
	}
	if a := strings.Repeat("a", 255); !ident.Server(a) || ident.Server(a+"a") || !ident.User("@"+a[:252]+":b") || ident.User("@"+a[:253]+":b") || !ident.Key("ed25519:"+a[:247]) || ident.Key("ed25519:"+a[:248]) {
		t.Error("the edge")
	}
	if s := "@" + strings.Repeat("a", 253) + ":b"; ident.Domain(s) != "" {
		t.Error("Domain of a text that is too long")
	}
}

// Each byte at each place of a name.
func TestEveryByte(t *testing.T) {
	for _, s := range []string{"b.c:80", "@a:b:80", "!a:b:80", "ed25519:a"} {
		for at := range s {
			for c := range 256 {
				check(t, s[:at]+string([]byte{byte(c)})+s[at+1:])
				check(t, s[:at]+string([]byte{byte(c)})+s[at:])
			}
			check(t, s[:at]+s[at+1:])
			check(t, s[:at]+"é"+s[at:])
		}
	}
}

func TestRandom(t *testing.T) {
	rnd := rand.New(rand.NewSource(1))
	parts := []string{"@", "!", "$", ":", "a", "Z", "0", "12345", ".", "_", "-", "=", "/", "+", "ed25519:", "é", "\n"}
	for range 100000 {
		var b strings.Builder
		for range rnd.Intn(7) {
			b.WriteString(parts[rnd.Intn(len(parts))])
		}
		check(t, b.String())
	}
}
