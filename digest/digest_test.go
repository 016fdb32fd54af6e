package digest_test

import (
	"bytes"
	"crypto/sha256"
	"encoding/hex"
	"math/rand"
	"testing"

	"hustings/digest"
)

func TestExamples(t *testing.T) {
	for s, want := range map[string]string{
		"abc": "ba7816bf8f01cfea414140de5dae2223b00361a396177a9cb410ff61f20015ad",
		"":    "e3b0c44298fc1c149afbf4c8996fb92427ae41e4649b934ca495991b7852b855",
	} {
		got := digest.Of([]byte(s))
		if hex.EncodeToString(got[:]) != want {
			t.Errorf("Of(%q) = %x, want %s", s, got, want)
		}
	}
	if digest.Of(nil) != digest.Of([]byte{}) {
		t.Error("nil and no bytes have unlike digests")
	}
	if digest.Size != 32 || digest.Block != 64 {
		t.Error("Size, Block")
	}
}

// All lengths up to some blocks: each place at which the padding can begin.
func TestLengths(t *testing.T) {
	rnd := rand.New(rand.NewSource(1))
	for n := range 5*digest.Block + 2 {
		b := make([]byte, n)
		rnd.Read(b)
		if digest.Of(b) != sha256.Sum256(b) {
			t.Fatalf("Of %d bytes is wrong", n)
		}
	}
	big := make([]byte, 1<<20+13)
	rnd.Read(big)
	if digest.Of(big) != sha256.Sum256(big) {
		t.Error("Of many bytes is wrong")
	}
	same := bytes.Repeat([]byte{0xff}, 1000)
	if digest.Of(same) != sha256.Sum256(same) {
		t.Error("Of bytes of ones is wrong")
	}
}

// Lengths whose number of bits needs its fourth byte, and more.
func TestLong(t *testing.T) {
	piece := make([]byte, 1<<20)
	h, want := digest.New(), sha256.New()
	for range 33 {
		h.Write(piece)
		want.Write(piece)
	}
	if got := h.Sum(); !bytes.Equal(got[:], want.Sum(nil)) {
		t.Error("of 33 MiB the digest is wrong")
	}
}

func TestPieces(t *testing.T) {
	rnd := rand.New(rand.NewSource(2))
	for range 300 {
		b := make([]byte, rnd.Intn(6*digest.Block))
		rnd.Read(b)
		h := digest.New()
		at := 0
		for at < len(b) {
			n := min(rnd.Intn(2*digest.Block), len(b)-at)
			h.Write(b[at : at+n])
			at += n
			if rnd.Intn(2) == 0 && h.Sum() != sha256.Sum256(b[:at]) {
				t.Fatalf("a sum between, behind %d bytes of %d, is wrong", at, len(b))
			}
		}
		if h.Sum() != sha256.Sum256(b) || h.Sum() != h.Sum() {
			t.Fatalf("the sum of pieces, %d bytes, is wrong", len(b))
		}
	}
}

func TestEverySplit(t *testing.T) {
	b := make([]byte, 2*digest.Block+5)
	for i := range b {
		b[i] = byte(i * 7)
	}
	for i := range b {
		h := digest.New()
		h.Write(b[:i])
		h.Sum()
		h.Write(nil)
		h.Write(b[i:])
		if h.Sum() != sha256.Sum256(b) {
			t.Fatalf("split at %d the sum is wrong", i)
		}
	}
}

func TestNil(t *testing.T) {
	var h *digest.Hash
	h.Write([]byte("abc"))
	h.Write(nil)
	if h.Sum() != [digest.Size]byte{} {
		t.Error("the sum of a nil Hash isn't noughts")
	}
}

func TestMemory(t *testing.T) {
	room := []byte("abcdefgh and room")
	before := bytes.Clone(room)
	h := digest.New()
	h.Write(room[:3])
	h.Sum()
	digest.Of(room[:3])
	if !bytes.Equal(room, before) {
		t.Error("what was handed in was changed")
	}
	room[0] = 'x'
	if h.Sum() != digest.Of([]byte("abc")) {
		t.Error("what was handed in was kept")
	}
	whole := make([]byte, digest.Block)
	g := digest.New()
	g.Write(whole)
	whole[5] = 1
	if g.Sum() != digest.Of(make([]byte, digest.Block)) {
		t.Error("a whole block that was handed in was kept")
	}
}

func TestTwo(t *testing.T) {
	one, two := digest.New(), digest.New()
	one.Write([]byte("a"))
	two.Write([]byte("x"))
	one.Write([]byte("bc"))
	one.Sum()
	two.Write([]byte("yz"))
	if one.Sum() != digest.Of([]byte("abc")) || two.Sum() != digest.Of([]byte("xyz")) {
		t.Error("two Hashes know of one another")
	}
	if digest.New().Sum() != digest.Of(nil) {
		t.Error("a new Hash has bytes")
	}
}
