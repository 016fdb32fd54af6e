package json_test

import (
	"math/rand"
	"regexp"
	"slices"
	"strings"
	"testing"

	"hustings/api"
	"hustings/json"
	"hustings/quote"
)

// model reads a text once more, by rules within rules, as the document lists them.
type model struct {
	s  string
	at int
}

type stop struct{ e api.Errno }

var (
	word  = regexp.MustCompile(`^[0-9+\-.eE]+`)
	whole = regexp.MustCompile(`^-?(0|[1-9][0-9]*)(\.[0-9]+)?([eE][+-]?[0-9]+)?$`)
	plain = regexp.MustCompile(`^(0|-?[1-9][0-9]{0,15})$`)
)

func (m *model) blank() {
	for m.at < len(m.s) && strings.Contains(" \t\n\r", m.s[m.at:m.at+1]) {
		m.at++
	}
}

func (m *model) is(sign string) bool {
	m.blank()
	if strings.HasPrefix(m.s[m.at:], sign) {
		m.at += len(sign)
		return true
	}
	return false
}

func (m *model) must(sign string) {
	if !m.is(sign) {
		panic(stop{api.ErrForm})
	}
}

func (m *model) text() string {
	m.blank()
	s, at, ok := quote.Take(m.s, m.at)
	if !ok {
		panic(stop{api.ErrForm})
	}
	m.at = at
	return s
}

func (m *model) number() api.Value {
	w := word.FindString(m.s[m.at:])
	if !whole.MatchString(w) {
		panic(stop{api.ErrForm})
	}
	n, sign := 0, 1
	for _, c := range w {
		if c == '-' {
			sign = -1
		} else {
			n = n*10 + int(c-'0')
		}
	}
	if !plain.MatchString(w) || n > api.MaxNum {
		panic(stop{api.ErrNumber})
	}
	m.at += len(w)
	return num(sign * n)
}

func (m *model) value(within int) api.Value {
	m.blank()
	if m.at < len(m.s) && strings.Contains("[{", m.s[m.at:m.at+1]) && within == api.MaxNest {
		panic(stop{api.ErrDeep})
	}
	switch {
	case m.is("null"):
		return api.Value{}
	case m.is("true"):
		return json.Bool(true)
	case m.is("false"):
		return json.Bool(false)
	case m.is("["):
		out := list()
		if m.is("]") {
			return out
		}
		for {
			out.List = append(out.List, m.value(within+1))
			if m.is("]") {
				return out
			}
			m.must(",")
		}
	case m.is("{"):
		return m.members(within)
	}
	if m.at < len(m.s) && m.s[m.at] == '"' {
		return text(m.text())
	}
	return m.number()
}

func (m *model) members(within int) api.Value {
	out := table()
	if m.is("}") {
		return out
	}
	for {
		key := m.text()
		if slices.ContainsFunc(out.Map, func(x api.Member) bool { return x.Key == key }) {
			panic(stop{api.ErrTwice})
		}
		m.must(":")
		out.Map = append(out.Map, member(key, m.value(within+1)))
		if m.is("}") {
			slices.SortFunc(out.Map, func(a, b api.Member) int { return strings.Compare(a.Key, b.Key) })
			return out
		}
		m.must(",")
	}
}

func modelParse(s string) (v api.Value, e api.Errno) {
	defer func() {
		if r := recover(); r != nil {
			v, e = api.Value{}, r.(stop).e
		}
	}()
	m := &model{s: s}
	v = m.value(0)
	m.blank()
	if m.at < len(s) {
		panic(stop{api.ErrForm})
	}
	return v, api.OK
}

func randomText(rnd *rand.Rand, parts []string, n int) string {
	var b strings.Builder
	for range rnd.Intn(n) {
		b.WriteString(parts[rnd.Intn(len(parts))])
	}
	return b.String()
}

func checkParse(t *testing.T, s string) {
	t.Helper()
	got, e := json.Parse(s)
	v, w := modelParse(s)
	if e != w || !same(got, v) {
		t.Fatalf("Parse(%q): %+v, %d; want %+v, %d", s, got, e, v, w)
	}
	if e != api.OK {
		return
	}
	c, e := json.Canon(got)
	if e != api.OK {
		t.Fatalf("Canon of what %q is: %d", s, e)
	}
	back, e := json.Parse(c)
	again, _ := json.Canon(back)
	if e != api.OK || !same(back, got) || again != c {
		t.Fatalf("%q, there and back: %q, %+v", s, c, back)
	}
}

func TestParseByModel(t *testing.T) {
	rnd := rand.New(rand.NewSource(1))
	parts := []string{"[", "]", "{", "}", ",", ":", `"a"`, `"b"`, `"\u0061"`, "1", "-", "0", ".", "e", "null", "true", " ", "\n", `"`, "x"}
	for range 100000 {
		checkParse(t, randomText(rnd, parts, 10))
	}
}

// grow makes a text of a value, which now and then is spoilt.
func grow(rnd *rand.Rand, left int) string {
	if rnd.Intn(60) == 0 {
		return []string{"1.5", "-0", "01", "x", "", `"`, "9007199254740992"}[rnd.Intn(7)]
	}
	kind := rnd.Intn(7)
	if left == 0 {
		kind = rnd.Intn(4)
	}
	var parts []string
	switch kind {
	case 0:
		return []string{"null", "true", "false", " null ", "9007199254740991"}[rnd.Intn(5)]
	case 1:
		return []string{"0", "7", "-12", "\n3"}[rnd.Intn(4)]
	case 2, 3:
		return []string{`""`, `"é"`, `"\n\""`, `"a"`}[rnd.Intn(4)]
	case 4:
		for range rnd.Intn(4) {
			parts = append(parts, grow(rnd, left-1))
		}
		return "[" + strings.Join(parts, ",") + "]"
	}
	for _, i := range rnd.Perm(7)[:rnd.Intn(4)] {
		parts = append(parts, []string{`"a"`, `"b"`, `"\u0061"`, `""`, `"é"`, `"Z"`, `"zz"`}[i]+":"+grow(rnd, left-1))
	}
	return " {" + strings.Join(parts, " ,") + " }"
}

func TestThereAndBack(t *testing.T) {
	rnd := rand.New(rand.NewSource(2))
	for range 30000 {
		checkParse(t, grow(rnd, 5))
	}
}

// Two values have the same canonical text just if they are the same.
func TestCanonTellsApart(t *testing.T) {
	rnd := rand.New(rand.NewSource(3))
	seen := map[string]api.Value{}
	for range 20000 {
		v, e := json.Parse(grow(rnd, 2))
		if e != api.OK {
			continue
		}
		c, _ := json.Canon(v)
		if w, ok := seen[c]; ok && !same(v, w) {
			t.Fatalf("%s is the text of two values", c)
		}
		seen[c] = v
	}
	for a, v := range seen {
		for _, w := range []api.Value{num(1), text("1"), list(num(1)), list()} {
			if c, _ := json.Canon(w); c == a && !same(v, w) {
				t.Fatalf("%s is the text of two values", c)
			}
		}
	}
}
