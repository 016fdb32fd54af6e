package digest2_test

import (
	"bytes"
	"crypto/sha512"
	"encoding/hex"
	"math/rand"
	"testing"

	"hustings/digest2"
)

func TestExamples(t *testing.T) {
	for s, want := range map[string]string{
		"abc": "ddaf35a193617abacc417349ae20413112e6fa4e89a97ea20a9eeee64b55d39a2192992a274fc1a836ba3c23a3feebbd454d4423643ce80e2a9ac94fa54ca49f",
		"":    "cf83e1357eefb8bdf1542850d66d8007d620e4050b5715dc83f4a921d36ce9ce47d0d13c5d85f2b0ff8318d2877eec2f63b931bd47417a81a538327af927da3e",
	} {
		got := digest2.Of([]byte(s))
		if hex.EncodeToString(got[:]) != want {
			t.Errorf("Of(%q) = %x, want %s", s, got, want)
		}
	}
	if digest2.Of(nil) != digest2.Of([]byte{}) {
		t.Error("nil and no bytes have unlike digests")
	}
	if digest2.Size != 64 || digest2.Block != 128 {
		t.Error("Size, Block")
	}
}

// All lengths up to some blocks: each place at which the padding can begin.
func TestLengths(t *testing.T) {
	rnd := rand.New(rand.NewSource(1))
	for n := range 5*digest2.Block + 2 {
		b := make([]byte, n)
		rnd.Read(b)
		if digest2.Of(b) != sha512.Sum512(b) {
			t.Fatalf("Of %d bytes is wrong", n)
		}
	}
	big := make([]byte, 1<<20+13)
	rnd.Read(big)
	if digest2.Of(big) != sha512.Sum512(big) {
		t.Error("Of many bytes is wrong")
	}
	same := bytes.Repeat([]byte{0xff}, 1000)
	if digest2.Of(same) != sha512.Sum512(same) {
		t.Error("Of bytes of ones is wrong")
	}
}

// Lengths whose number of bits needs its fourth byte, and more.
func TestLong(t *testing.T) {
	piece := make([]byte, 1<<20)
	h, want := digest2.New(), sha512.New()
	for range 33 {
		h.Write(piece)
		want.Write(piece)
	}
	if got := h.Sum(); !bytes.Equal(got[:], want.Sum(nil)) {
		t.Error("of 33 MiB the digest is wrong")
	}
}

func TestPieces(t *testing.T) {
	rnd := rand.New(rand.NewSource(2))
	for range 300 {
		b := make([]byte, rnd.Intn(6*digest2.Block))
		rnd.Read(b)
		h := digest2.New()
		at := 0
		for at < len(b) {
			n := min(rnd.Intn(2*digest2.Block), len(b)-at)
			h.Write(b[at : at+n])
			at += n
			if rnd.Intn(2) == 0 && h.Sum() != sha512.Sum512(b[:at]) {
				t.Fatalf("a sum between, behind %d bytes of %d, is wrong", at, len(b))
			}
		}
		if h.Sum() != sha512.Sum512(b) || h.Sum() != h.Sum() {
			t.Fatalf("the sum of pieces, %d bytes, is wrong", len(b))
		}
	}
}

func TestEverySplit(t *testing.T) {
	b := make([]byte, 2*digest2.Block+5)
	for i := range b {
		b[i] = byte(i * 7)
	}
	for i := range b {
		h := digest2.New()
		h.Write(b[:i])
		h.Sum()
		h.Write(nil)
		h.Write(b[i:])
		if h.Sum() != sha512.Sum512(b) {
			t.Fatalf("split at %d the sum is wrong", i)
		}
	}
}

func TestNil(t *testing.T) {
	var h *digest2.Hash
	h.Write([]byte("abc"))
	h.Write(nil)
	if h.Sum() != [digest2.Size]byte{} {
		t.Error("the sum of a nil Hash isn't noughts")
	}
}

func TestMemory(t *testing.T) {
	room := []byte("abcdefgh and room")
	before := bytes.Clone(room)
	h := digest2.New()
	h.Write(room[:3])
	h.Sum()
	digest2.Of(room[:3])
	if !bytes.Equal(room, before) {
		t.Error("what was handed in was changed")
	}
	room[0] = 'x'
	if h.Sum() != digest2.Of([]byte("abc")) {
		t.Error("what was handed in was kept")
	}
	whole := make([]byte, digest2.Block)
	g := digest2.New()
	g.Write(whole)
	whole[5] = 1
	if g.Sum() != digest2.Of(make([]byte, digest2.Block)) {
		t.Error("a whole block that was handed in was kept")
	}
}

func TestTwo(t *testing.T) {
	one, two := digest2.New(), digest2.New()
	one.Write([]byte("a"))
	two.Write([]byte("x"))
	one.Write([]byte("bc"))
	one.Sum()
	two.Write([]byte("yz"))
	if one.Sum() != digest2.Of([]byte("abc")) || two.Sum() != digest2.Of([]byte("xyz")) {
		t.Error("two Hashes know of one another")
	}
	if digest2.New().Sum() != digest2.Of(nil) {
		t.Error("a new Hash has bytes")
	}
}
