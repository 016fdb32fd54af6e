package sign_test

import (
	"bytes"
	"crypto/ed25519"
	"encoding/hex"
	"math/rand"
	"testing"

	"hustings/curve"
	"hustings/digest2"
	"hustings/scalar"
	"hustings/sign"
)

func seedOf(s string) [32]byte {
	b, _ := hex.DecodeString(s)
	return [32]byte(b)
}

func order() [32]byte {
	return [32]byte{0xed, 0xd3, 0xf5, 0x5c, 0x1a, 0x63, 0x12, 0x58, 0xd6, 0x9c, 0xf7, 0xa2, 0xde, 0xf9, 0xde, 0x14, 31: 0x10}
}

// plus: the sum of two numbers of 32 bytes.
func plus(a, b [32]byte) [32]byte {
	up := 0
	for i := range a {
		n := int(a[i]) + int(b[i]) + up
		a[i], up = byte(n), n>>8
	}
	return a
}

// The first tests of RFC 8032.
func TestExamples(t *testing.T) {
	for _, c := range []struct{ seed, key, msg, sig string }{
		{"9d61b19deffd5a60ba844af492ec2cc44449c5697b326919703bac031cae7f60", "d75a980182b10ab7d54bfed3c964073a0ee172f3daa62325af021a68f707511a", "", "e5564300c360ac729086e2cc806e828a84877f1eb8e5d974d873e065224901555fb8821590a33bacc61e39701cf9b46bd25bf5f0595bbe24655141438e7a100b"},
		{"4ccd089b28ff96da9db6c346ec114e0f5b8a319f35aba624da8cf6ed4fb8a6fb", "3d4017c3e843895a92b70aa74d1b7ebc9c982ccf2ec4968cc0cd55f12af4660c", "72", "92a009a9f0d4cab8720e820b5f642540a2b27b5416503f8fb3762223ebdb69da085ac1e43e15996e458f3613d0f11d8c387b2eaeb4302aeeb00d291612bb0c00"},
		{"c5aa8df43f9f837bedb7442f31dcb7b166d38535076f094b85ce3a2e0b4458f7", "fc51cd8e6218a1a38da47ed00230f0580816ed13ba3303ac5deb911548908025", "af82", "6291d657deec24024827e69c3abe01a30ce548a284743a445e3680d7db5ac3ac18ff9b538d16f290ae67f760984dc6594a7c15e9716ed28dc027beceea1ec40a"},
	} {
		msg, _ := hex.DecodeString(c.msg)
		if key := sign.Public(seedOf(c.seed)); hex.EncodeToString(key[:]) != c.key {
			t.Errorf("the public key is %x, want %s", key, c.key)
		}
		sig := sign.Sign(seedOf(c.seed), msg)
		if hex.EncodeToString(sig[:]) != c.sig {
			t.Errorf("the signature is %x, want %s", sig, c.sig)
		}
		if !sign.Verify(seedOf(c.key), msg, sig) {
			t.Error("the signature isn't verified")
		}
	}
}

func TestSignVerify(t *testing.T) {
	rnd := rand.New(rand.NewSource(1))
	for n := range 60 {
		var seed [32]byte
		rnd.Read(seed[:])
		msg := make([]byte, n*n/3)
		rnd.Read(msg)
		secret := ed25519.NewKeyFromSeed(seed[:])
		key, sig := sign.Public(seed), sign.Sign(seed, msg)
		if !bytes.Equal(key[:], secret.Public().(ed25519.PublicKey)) || !bytes.Equal(sig[:], ed25519.Sign(secret, msg)) {
			t.Fatalf("seed %x: key or signature is wrong", seed)
		}
		if !sign.Verify(key, msg, sig) {
			t.Fatalf("seed %x: the signature isn't verified", seed)
		}
	}
	if !sign.Verify(sign.Public([32]byte{}), nil, sign.Sign([32]byte{}, []byte{})) {
		t.Error("no bytes: nil and empty aren't the same")
	}
}

// A bit turned anywhere, in the message, the key, or the signature: not verified.
func TestTurned(t *testing.T) {
	seed, msg := [32]byte{7}, []byte("what was signed")
	key, sig := sign.Public(seed), sign.Sign(seed, msg)
	for i := range 64 * 8 {
		bad := sig
		bad[i/8] ^= 1 << (i % 8)
		if sign.Verify(key, msg, bad) {
			t.Fatalf("verified with bit %d of the signature turned", i)
		}
	}
	for i := range 32 * 8 {
		bad := key
		bad[i/8] ^= 1 << (i % 8)
		if sign.Verify(bad, msg, sig) {
			t.Fatalf("verified with bit %d of the key turned", i)
		}
	}
	for i := range len(msg) * 8 {
		bad := bytes.Clone(msg)
		bad[i/8] ^= 1 << (i % 8)
		if sign.Verify(key, bad, sig) {
			t.Fatalf("verified with bit %d of the message turned", i)
		}
	}
	if sign.Verify(key, msg[:len(msg)-1], sig) || sign.Verify(key, append(msg, 0), sig) || sign.Verify(sign.Public([32]byte{8}), msg, sig) {
		t.Error("verified with a shorter or longer message, or another's key")
	}
}

// A second half that isn't a rest would be a second signature of the same first half.
func TestSecondHalf(t *testing.T) {
	for n := range byte(20) {
		seed, msg := [32]byte{n}, []byte{n}
		key, sig := sign.Public(seed), sign.Sign(seed, msg)
		second := [32]byte(sig[32:])
		for range 15 {
			second = plus(second, order())
			bad := sig
			copy(bad[32:], second[:])
			if sign.Verify(key, msg, bad) {
				t.Fatal("verified with a multiple of l more in the second half")
			}
		}
	}
	var full [64]byte
	for i := range full {
		full[i] = 0xff
	}
	if sign.Verify(sign.Public([32]byte{1}), nil, full) || sign.Verify(sign.Public([32]byte{1}), nil, [64]byte{}) {
		t.Error("ones or noughts are verified")
	}
}

// forged: a signature by the key with so small an order that the message doesn't count, if it is taken times turned by first.
func forged(second [32]byte, first [32]byte) (sig [64]byte) {
	copy(sig[:32], first[:])
	copy(sig[32:], second[:])
	return sig
}

// Keys of small order are points' bytes, and the factor 8 isn't there: the equation holds just if it holds to the letter.
func TestSmallOrder(t *testing.T) {
	second := [32]byte{5}
	first := curve.Base().Mul(second).Bytes()
	if !sign.Verify([32]byte{1}, []byte("anything"), forged(second, first)) {
		t.Error("by the key Zero a signature of anything isn't verified")
	}
	minus := [32]byte{0xec, 31: 0x7f} // 0, -1: twice it is Zero
	for i := 1; i < 31; i++ {
		minus[i] = 0xff
	}
	point, ok := curve.Decode(minus)
	if !ok {
		t.Fatal("0, -1 isn't a point")
	}
	yes, no := 0, 0
	for n := range byte(40) {
		msg, sig := []byte{n}, forged(second, first)
		sum := digest2.Of(append(append(append([]byte{}, first[:]...), minus[:]...), n))
		k := scalar.Rest(sum[:])
		want := curve.Base().Mul(second).Add(point.Mul(k).Neg()).Bytes() == first
		if got := sign.Verify(minus, msg, sig); got != want {
			t.Fatalf("message %d: %v, want %v", n, got, want)
		}
		if want {
			yes++
		} else {
			no++
		}
	}
	if yes == 0 || no == 0 {
		t.Error("the test shows nothing")
	}
}

func TestKeyIsNoPoint(t *testing.T) {
	second := [32]byte{5}
	first := curve.Base().Mul(second).Bytes()
	high := [32]byte{0xee, 31: 0x7f} // y is p + 1, which would be Zero's
	for i := 1; i < 31; i++ {
		high[i] = 0xff
	}
	for _, key := range [][32]byte{{2}, high, {0: 1, 31: 0x80}} {
		if sign.Verify(key, nil, forged(second, first)) {
			t.Errorf("verified by %x, which is no point's", key)
		}
	}
	// A first half that tells the right point in a wrong way: Zero, with y as p + 1.
	if sign.Verify([32]byte{1}, nil, forged([32]byte{}, high)) || !sign.Verify([32]byte{1}, nil, forged([32]byte{}, [32]byte{1})) {
		t.Error("the first half's bytes don't count")
	}
}

func TestMemory(t *testing.T) {
	room := []byte("message and room")
	before := bytes.Clone(room)
	key := sign.Public([32]byte{3})
	sig := sign.Sign([32]byte{3}, room[:7])
	if !sign.Verify(key, room[:7], sig) || !bytes.Equal(room, before) {
		t.Error("what was handed in was changed")
	}
	room[0] = 'x'
	if sign.Verify(key, room[:7], sig) || sign.Sign([32]byte{3}, before[:7]) != sig {
		t.Error("what was handed in was kept")
	}
}

func BenchmarkVerify(b *testing.B) {
	key, sig := sign.Public([32]byte{3}), sign.Sign([32]byte{3}, nil)
	for range b.N {
		sign.Verify(key, nil, sig)
	}
}
