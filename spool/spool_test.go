package spool_test

import (
	"encoding/base64"
	"fmt"
	"math/rand"
	"slices"
	"strings"
	"testing"

	"hustings/api"
	"hustings/spool"
)

func line(record string) string {
	return base64.RawURLEncoding.EncodeToString([]byte(record)) + "\n"
}

// model is a spool once more: the synced bytes, and those behind them.
type model struct {
	synced, loose string
	down          bool
	acts          int
	left, keep    int
}

func (m *model) off(keep int) {
	if m.down {
		return
	}
	m.synced += m.loose[:max(0, min(keep, len(m.loose)))]
	m.loose, m.down, m.left = "", true, 0
}

func (m *model) goes() bool {
	m.acts++
	if m.left > 0 {
		m.left--
		if m.left == 0 {
			m.off(m.keep)
			return true
		}
	}
	return false
}

func (m *model) append(record string) api.Errno {
	if m.down {
		return api.ErrDown
	}
	if len(m.synced)+len(m.loose)+len(line(record)) > api.MaxSpool {
		return api.ErrFull
	}
	m.loose += line(record)
	if m.goes() {
		return api.ErrDown
	}
	return api.OK
}

func (m *model) sync() api.Errno {
	if m.down || m.goes() {
		return api.ErrDown
	}
	m.synced, m.loose = m.synced+m.loose, ""
	return api.OK
}

func (m *model) open() ([]string, api.Errno) {
	if m.down {
		return nil, api.ErrDown
	}
	all := m.synced + m.loose
	parts := strings.Split(all, "\n")
	var out []string
	for _, p := range parts[:len(parts)-1] {
		b, err := base64.RawURLEncoding.Strict().DecodeString(p)
		if err != nil || strings.Contains(p, "\r") {
			return nil, api.ErrForm
		}
		out = append(out, string(b))
	}
	gone := len(parts[len(parts)-1])
	cut := min(gone, len(m.loose))
	m.loose = m.loose[:len(m.loose)-cut]
	m.synced = m.synced[:len(m.synced)-(gone-cut)]
	return out, api.OK
}

func check(t *testing.T, what string, s *spool.Spool, m *model) {
	t.Helper()
	if s.Bytes() != m.synced+m.loose || s.Down() != m.down || s.Acts() != m.acts {
		t.Fatalf("behind %s: bytes %q, down %v, acts %d; want %q, %v, %d", what, s.Bytes(), s.Down(), s.Acts(), m.synced+m.loose, m.down, m.acts)
	}
}

func TestExamples(t *testing.T) {
	s := spool.New("")
	if err := s.Append("f"); err != api.OK || s.Bytes() != "Zg\n" {
		t.Errorf("Append(f): %d, %q", err, s.Bytes())
	}
	s.Off(2)
	if s.Bytes() != "Zg" || !s.Down() {
		t.Errorf("Off(2): %q", s.Bytes())
	}
	s.On()
	if list, err := s.Open(); err != api.OK || len(list) != 0 || s.Bytes() != "" {
		t.Errorf("Open: %q, %d, %q", list, err, s.Bytes())
	}
}

func TestScripts(t *testing.T) {
	rnd := rand.New(rand.NewSource(1))
	starts := []string{"", "Zg\n", "Zg\nZm8\n", "Zg\nZm", "\n\n", "Zh\n", "Zg==\n", "Zg\r\n", "+/8\n", "-_8\n", "x"}
	for range 3000 {
		start := starts[rnd.Intn(len(starts))]
		s, m := spool.New(start), &model{synced: start}
		var log []string
		for range rnd.Intn(40) {
			n, k := rnd.Intn(6)-1, rnd.Intn(12)-2
			var what string
			switch rnd.Intn(9) {
			case 0, 1, 2:
				record := []string{"", "f", "foo\n", "\xff\xfe", strings.Repeat("z", 9)}[rnd.Intn(5)]
				got, want := s.Append(record), m.append(record)
				what = fmt.Sprintf("Append(%q) %d", record, got)
				if got != want {
					t.Fatalf("%v, %s; want %d", log, what, want)
				}
			case 3, 4:
				got, want := s.Sync(), m.sync()
				what = fmt.Sprintf("Sync %d", got)
				if got != want {
					t.Fatalf("%v, %s; want %d", log, what, want)
				}
			case 5:
				list, got := s.Open()
				must, want := m.open()
				what = fmt.Sprintf("Open %q %d", list, got)
				if got != want || !slices.Equal(list, must) {
					t.Fatalf("%v, %s; want %q, %d", log, what, must, want)
				}
			case 6:
				s.Off(k)
				m.off(k)
				what = fmt.Sprintf("Off(%d)", k)
			case 7:
				s.Arm(n, k)
				m.left, m.keep = max(0, n), k
				what = fmt.Sprintf("Arm(%d, %d)", n, k)
			default:
				s.On()
				m.down = false
				what = "On"
			}
			log = append(log, what)
			check(t, strings.Join(log, ", "), s, m)
		}
	}
}

// Wherever the power goes, and however much stays: the records that were synced, and behind them a beginning of the others, each whole.
func TestForGood(t *testing.T) {
	records := []string{"", "a", "bc", "def", "ghij", "\x00\n\xff"}
	for goes := 1; goes <= 14; goes++ {
		for keep := -1; keep < 30; keep++ {
			s := spool.New(line("old"))
			s.Arm(goes, keep)
			synced, sent := 1, 1
			for i, r := range records {
				err := s.Append(r)
				sent++
				if err == api.OK && i%2 == 1 {
					if err = s.Sync(); err == api.OK {
						synced = sent
					}
				}
				if err != api.OK {
					break
				}
			}
			if !s.Down() {
				s.Off(keep)
			}
			s.On()
			list, err := s.Open()
			if err != api.OK || len(list) < synced || len(list) > sent || !slices.Equal(list, append([]string{"old"}, records...)[:len(list)]) {
				t.Fatalf("power gone in act %d with %d: %q, %d; %d synced, %d sent", goes, keep, list, err, synced, sent)
			}
			before := s.Bytes()
			s.Off(0)
			s.On()
			if again, _ := s.Open(); !slices.Equal(again, list) || s.Bytes() != before {
				t.Fatalf("what stayed isn't synced: %q", again)
			}
			if s.Append("new") != api.OK || s.Sync() != api.OK {
				t.Fatal("something is armed yet")
			}
			if all, _ := s.Open(); !slices.Equal(all, append(list, "new")) {
				t.Fatalf("behind a new record: %q", all)
			}
		}
	}
}

func TestArm(t *testing.T) {
	s := spool.New("")
	s.Arm(2, 1)
	s.Arm(3, 2) // it takes the place of what was armed
	if s.Append("f") != api.OK || s.Append("f") != api.OK || s.Append("f") != api.ErrDown || s.Bytes() != "Zg" || s.Acts() != 3 {
		t.Errorf("armed anew: %q, %d acts", s.Bytes(), s.Acts())
	}
	s.Arm(1, 100) // while it is off: from now on
	s.On()
	if s.Append("f") != api.ErrDown || s.Bytes() != "ZgZg\n" {
		t.Errorf("armed while off: %q", s.Bytes())
	}
	s.On()
	for _, n := range []int{0, -1, -1 << 63} {
		s.Arm(1, 0)
		s.Arm(n, 0)
		if s.Append("f") != api.OK || s.Sync() != api.OK {
			t.Errorf("Arm(%d) armed it", n)
		}
	}
	s.Arm(1, 0)
	before := s.Bytes()
	if s.Sync() != api.ErrDown || s.Bytes() != before {
		t.Error("gone in a Sync")
	}
	s.On()
	s.Arm(1, 0)
	s.Off(0)
	s.On()
	if s.Sync() != api.OK {
		t.Error("it is armed yet behind a loss of power")
	}
	s.Arm(2, 0)
	s.Open()
	s.Append(strings.Repeat("x", api.MaxSpool)) // neither is a raw act
	if acts := s.Acts(); s.Sync() != api.OK || s.Sync() != api.ErrDown || s.Acts() != acts+2 {
		t.Error("acts that are none count")
	}
	s.Append("f")
	s.Sync()
	s.Open()
	if acts := s.Acts(); s.Append("f") != api.ErrDown || s.Sync() != api.ErrDown || s.Acts() != acts {
		t.Error("acts while it is off count")
	}
}

// Behind a loss in a Sync, so much of what wasn't synced stays as was said.
func TestKeep(t *testing.T) {
	for keep := -2; keep < 9; keep++ {
		s := spool.New("Zg\n")
		s.Append("fo")
		s.Arm(1, keep)
		if err := s.Sync(); err != api.ErrDown {
			t.Fatalf("Sync: %d", err)
		}
		if want := "Zg\n" + "Zm8\n"[:max(0, min(keep, 4))]; s.Bytes() != want {
			t.Errorf("kept %d: %q, want %q", keep, s.Bytes(), want)
		}
		s.Off(0) // of one that is off: nothing
		s.On()
		if list, err := s.Open(); err != api.OK || len(list) != 1+max(0, min(keep, 4))/4 {
			t.Errorf("kept %d: %q, %d", keep, list, err)
		}
	}
}

func TestLimits(t *testing.T) {
	full := strings.Repeat("Zg\n", api.MaxSpool/3+1)
	s := spool.New(full)
	if s.Bytes() != full[:api.MaxSpool] {
		t.Errorf("New of too many bytes has %d", len(s.Bytes()))
	}
	if err := s.Append(""); err != api.ErrFull {
		t.Errorf("Append to a full one: %d", err)
	}
	s = spool.New(full[:api.MaxSpool-6])
	s.Arm(1, 0)
	if s.Append("foob") != api.ErrFull || s.Down() || s.Acts() != 0 || len(s.Bytes()) != api.MaxSpool-6 {
		t.Error("Append of a byte too many")
	}
	s.Arm(0, 0)
	if s.Append("foo") != api.OK || s.Append("") != api.OK || s.Append("") != api.ErrFull || len(s.Bytes()) != api.MaxSpool {
		t.Error("Append up to the limit")
	}
	if s.Sync() != api.OK {
		t.Error("Sync of a full one")
	}
	big := spool.New("")
	if err := big.Append(strings.Repeat("x", api.MaxSpool/4*3-1)); err != api.OK {
		t.Errorf("a record of nearly all: %d", err)
	}
	if err := spool.New("").Append(strings.Repeat("x", api.MaxSpool/4*3)); err != api.ErrFull {
		t.Errorf("a record of too much: %d", err)
	}
}

func TestOpen(t *testing.T) {
	for _, bad := range []string{"Z\n", "Zh\n", "Zg\nZg=\n", "Zg\n \n", "é\n", "+/8\n", "Zg\r\n", "Z\nZg\nZ"} {
		s := spool.New(bad)
		if list, err := s.Open(); err != api.ErrForm || len(list) != 0 || s.Bytes() != bad {
			t.Errorf("Open of %q: %q, %d, %q", bad, list, err, s.Bytes())
		}
	}
	s := spool.New("\nZg\n\n-_8\nZ!")
	if list, err := s.Open(); err != api.OK || !slices.Equal(list, []string{"", "f", "", "\xfb\xff"}) || s.Bytes() != "\nZg\n\n-_8\n" {
		t.Errorf("Open: %q, %d, %q", list, err, s.Bytes())
	}
	s.Append("x")
	if list, _ := s.Open(); len(list) != 5 {
		t.Error("a record that isn't synced isn't told")
	}
	s.Off(0)
	s.On()
	if list, _ := s.Open(); len(list) != 4 {
		t.Error("Open synced it")
	}
}

func TestNil(t *testing.T) {
	var s *spool.Spool
	s.Off(1)
	s.On()
	s.Arm(1, 1)
	if list, err := s.Open(); err != api.ErrNil || len(list) != 0 {
		t.Errorf("Open: %d", err)
	}
	if s.Append("x") != api.ErrNil || s.Sync() != api.ErrNil || s.Down() || s.Acts() != 0 || s.Bytes() != "" {
		t.Error("a nil spool")
	}
}

func TestTwo(t *testing.T) {
	one, two := spool.New("Zg\n"), spool.New("Zg\n")
	one.Append("a")
	two.Append("b")
	one.Off(0)
	list, err := two.Open()
	if err != api.OK || !slices.Equal(list, []string{"f", "b"}) || two.Down() || two.Acts() != 1 {
		t.Errorf("two spools know of one another: %q, %d", list, err)
	}
	list[0] = "written"
	if again, _ := two.Open(); again[0] != "f" {
		t.Error("two answers share memory")
	}
}
