package json

import (
	"slices"
	"strconv"
	"strings"

	"hustings/api"
	"hustings/quote"
)

const (
	blanks   = " \t\n\r"
	ciphers  = "0123456789"
	inNumber = ciphers + "+-.eE"
)

// reader goes over a text; under is the lists and maps around the place, each a *list or a *table.
type reader struct {
	text  string
	at    int
	under []any
}

// list is one of which not all was read.
type list struct{ vals []api.Value }

// table is a map of which not all was read; key is the one whose value comes next.
type table struct {
	members []api.Member
	seen    map[string]struct{}
	key     string
}

// Parse: the value of a text; ErrLong, ErrForm, ErrNumber, ErrDeep, ErrTwice.
func Parse(s string) (v api.Value, e api.Errno) {
	if len(s) > api.MaxBytes {
		return api.Value{}, api.ErrLong
	}
	defer func() {
		if given := recover(); given != nil {
			v, e = api.Value{}, given.(fault).err
		}
	}()
	r := &reader{text: s}
	v = r.all()
	if r.next() != 0 || r.at < len(s) {
		giveUp(api.ErrForm)
	}
	return v, api.OK
}

// all: the value at the place, with all that stands in it.
func (r *reader) all() api.Value {
	v, whole := r.begin()
	for !whole || len(r.under) > 0 {
		if whole {
			v, whole = r.lay(v)
		} else {
			v, whole = r.begin()
		}
	}
	return v
}

// next: the first byte that is no blank; 0 at the end.
func (r *reader) next() byte {
	for r.at < len(r.text) && strings.IndexByte(blanks, r.text[r.at]) >= 0 {
		r.at++
	}
	if r.at == len(r.text) {
		return 0
	}
	return r.text[r.at]
}

// pass goes over the next byte, if it is that one.
func (r *reader) pass(c byte) bool {
	if r.next() != c || r.at == len(r.text) {
		return false
	}
	r.at++
	return true
}

func (r *reader) must(c byte) {
	if !r.pass(c) {
		giveUp(api.ErrForm)
	}
}

// begin: the value that begins at the place; false: it is a list or a map, and a value in it comes next.
func (r *reader) begin() (api.Value, bool) {
	switch c := r.next(); {
	case c == '[':
		r.open(&list{})
		if !r.pass(']') {
			return api.Value{}, false
		}
		return r.close(), true
	case c == '{':
		r.open(&table{seen: map[string]struct{}{}})
		if !r.pass('}') {
			r.key()
			return api.Value{}, false
		}
		return r.close(), true
	case c == '"':
		return Text(r.quoted()), true
	case c == '-' || '0' <= c && c <= '9':
		return Num(r.number()), true
	}
	return r.word(), true
}

// open: what stands at the place is one more around those that come.
func (r *reader) open(inner any) {
	if len(r.under) == api.MaxNest {
		giveUp(api.ErrDeep)
	}
	r.at++
	r.under = append(r.under, inner)
}

// close: the innermost list or map, which has all.
func (r *reader) close() api.Value {
	last := len(r.under) - 1
	inner := r.under[last]
	r.under = r.under[:last]
	if l, ok := inner.(*list); ok {
		return api.Value{Kind: api.KindList, List: l.vals}
	}
	members := inner.(*table).members
	slices.SortFunc(members, func(a, b api.Member) int { return strings.Compare(a.Key, b.Key) })
	return api.Value{Kind: api.KindMap, Map: members}
}

// lay: a value belongs to the innermost list or map; true: that one has all, and is answered.
func (r *reader) lay(v api.Value) (api.Value, bool) {
	inner := r.under[len(r.under)-1]
	if l, ok := inner.(*list); ok {
		l.vals = append(l.vals, v)
		if r.pass(',') {
			return api.Value{}, false
		}
		r.must(']')
		return r.close(), true
	}
	m := inner.(*table)
	m.members = append(m.members, api.Member{Key: m.key, Val: v})
	if r.pass(',') {
		r.key()
		return api.Value{}, false
	}
	r.must('}')
	return r.close(), true
}

// key reads a key of the innermost map, and the colon.
func (r *reader) key() {
	m := r.under[len(r.under)-1].(*table)
	r.next()
	m.key = r.quoted()
	if _, ok := m.seen[m.key]; ok {
		giveUp(api.ErrTwice)
	}
	m.seen[m.key] = struct{}{}
	r.must(':')
}

func (r *reader) quoted() string {
	s, behind, ok := quote.Take(r.text, r.at)
	if !ok {
		giveUp(api.ErrForm)
	}
	r.at = behind
	return s
}

func (r *reader) word() api.Value {
	rest := r.text[r.at:]
	switch {
	case strings.HasPrefix(rest, "null"):
		r.at += len("null")
		return api.Value{}
	case strings.HasPrefix(rest, "true"):
		r.at += len("true")
		return Bool(true)
	case strings.HasPrefix(rest, "false"):
		r.at += len("false")
		return Bool(false)
	}
	giveUp(api.ErrForm)
	return api.Value{}
}

// number: a whole word is looked at, so that 1.0 is told from 1 and what stands behind it.
func (r *reader) number() int {
	from := r.at
	for r.at < len(r.text) && strings.IndexByte(inNumber, r.text[r.at]) >= 0 {
		r.at++
	}
	word := r.text[from:r.at]
	if !isNumber(word) {
		giveUp(api.ErrForm)
	}
	n, err := strconv.Atoi(word) // an error at ".", e and E, and where no int has room
	if err != nil || word == "-0" || n < -api.MaxNum || n > api.MaxNum {
		giveUp(api.ErrNumber)
	}
	return n
}

// isNumber: whether a word is a number of JSON, be it one that can be a value or not.
func isNumber(word string) bool {
	rest := strings.TrimPrefix(word, "-")
	if strings.HasPrefix(rest, "0") {
		rest = rest[1:]
	} else if rest = strings.TrimLeft(rest, ciphers); rest == strings.TrimPrefix(word, "-") {
		return false
	}
	if strings.HasPrefix(rest, ".") {
		behind := strings.TrimLeft(rest[1:], ciphers)
		if behind == rest[1:] {
			return false
		}
		rest = behind
	}
	if rest == "" || rest[0] != 'e' && rest[0] != 'E' {
		return rest == ""
	}
	rest = rest[1:]
	if rest != "" && (rest[0] == '+' || rest[0] == '-') {
		rest = rest[1:]
	}
	return rest != "" && strings.Trim(rest, ciphers) == ""
}
