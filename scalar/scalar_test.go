package scalar_test

import (
	"bytes"
	"math/big"
	"math/rand"
	"slices"
	"testing"

	"hustings/scalar"
)

var order, _ = new(big.Int).SetString("7237005577332262213973186563042994240857116359379907606001950938285454250989", 10)

func number(b []byte) *big.Int {
	b = bytes.Clone(b)
	slices.Reverse(b)
	return new(big.Int).SetBytes(b)
}

func bytesOf(n *big.Int) [32]byte {
	var b [32]byte
	n.FillBytes(b[:])
	slices.Reverse(b[:])
	return b
}

func rest(n *big.Int) [32]byte { return bytesOf(new(big.Int).Mod(n, order)) }

func power(n uint) *big.Int { return new(big.Int).Lsh(big.NewInt(1), n) }

// some is edges of all kinds, and numbers by chance.
func some(seed int64) [][32]byte {
	rnd := rand.New(rand.NewSource(seed))
	var out [][32]byte
	top := power(256)
	for _, at := range []*big.Int{big.NewInt(0), order, new(big.Int).Mul(order, big.NewInt(2)), new(big.Int).Mul(order, big.NewInt(15)), new(big.Int).Mul(order, big.NewInt(16)), power(252), power(253), power(255), top, power(64), power(128), power(192)} {
		for d := int64(-3); d <= 3; d++ {
			n := new(big.Int).Add(at, big.NewInt(d))
			if n.Sign() >= 0 && n.Cmp(top) < 0 {
				out = append(out, bytesOf(n))
			}
		}
	}
	for range 40 {
		var b [32]byte
		rnd.Read(b[:])
		out = append(out, b)
	}
	return out
}

func TestExamples(t *testing.T) {
	l := bytesOf(order)
	if !bytes.Equal(l[:4], []byte{0xed, 0xd3, 0xf5, 0x5c}) || l[30] != 0 || l[31] != 0x10 {
		t.Fatal("the test's order is wrong")
	}
	if scalar.Rest(l[:]) != [32]byte{} || scalar.Rest(nil) != [32]byte{} || scalar.Rest([]byte{}) != [32]byte{} {
		t.Error("Rest of l, or of no bytes, isn't 0")
	}
	if scalar.MulAdd([32]byte{2}, [32]byte{3}, [32]byte{4}) != [32]byte{10} {
		t.Error("MulAdd(2, 3, 4) isn't 10")
	}
}

func TestRest(t *testing.T) {
	rnd := rand.New(rand.NewSource(1))
	for n := range 200 {
		for range 5 {
			b := make([]byte, n)
			rnd.Read(b)
			if rnd.Intn(3) == 0 {
				for i := range b {
					b[i] = 0xff
				}
			}
			if got := scalar.Rest(b); got != rest(number(b)) {
				t.Fatalf("Rest of %x: %x", b, got)
			}
		}
	}
	for _, b := range some(2) {
		if scalar.Rest(b[:]) != rest(number(b[:])) {
			t.Fatalf("Rest of %x is wrong", b)
		}
	}
	for q := int64(0); q < 600; q++ { // multiples of the order, and numbers right beside them
		for d := int64(-1); d <= 1; d++ {
			n := new(big.Int).Add(new(big.Int).Mul(order, big.NewInt(q)), big.NewInt(d))
			if n.Sign() < 0 {
				continue
			}
			b := n.Bytes()
			slices.Reverse(b)
			if scalar.Rest(b) != rest(n) {
				t.Fatalf("Rest of %d times the order and %d is wrong", q, d)
			}
		}
	}
	long := make([]byte, 100000)
	long[99999] = 1
	if scalar.Rest(long) != rest(number(long)) {
		t.Error("Rest of a long number is wrong")
	}
}

func TestGood(t *testing.T) {
	for _, s := range some(3) {
		if scalar.Good(s) != (number(s[:]).Cmp(order) < 0) {
			t.Fatalf("Good of %x is wrong", s)
		}
		if !scalar.Good(scalar.Rest(s[:])) {
			t.Fatalf("the rest of %x isn't good", s)
		}
	}
	if scalar.Good(bytesOf(order)) || !scalar.Good(bytesOf(new(big.Int).Sub(order, big.NewInt(1)))) || !scalar.Good([32]byte{}) {
		t.Error("Good at the edge is wrong")
	}
}

func TestMulAdd(t *testing.T) {
	list := some(4)
	for i, a := range list {
		for j, b := range list {
			c := list[(i*5+j)%len(list)]
			want := new(big.Int).Mul(number(a[:]), number(b[:]))
			if got := scalar.MulAdd(a, b, c); got != rest(want.Add(want, number(c[:]))) {
				t.Fatalf("MulAdd(%x, %x, %x) = %x", a, b, c, got)
			}
		}
	}
	var full [32]byte
	for i := range full {
		full[i] = 0xff
	}
	want := new(big.Int).Mul(number(full[:]), number(full[:]))
	if scalar.MulAdd(full, full, full) != rest(want.Add(want, number(full[:]))) {
		t.Error("MulAdd of the greatest numbers is wrong")
	}
}

func TestNeg(t *testing.T) {
	for _, a := range some(5) {
		got := scalar.Neg(a)
		if got != rest(new(big.Int).Neg(number(a[:]))) {
			t.Fatalf("Neg of %x: %x", a, got)
		}
		if scalar.Neg(got) != scalar.Rest(a[:]) || scalar.MulAdd([32]byte{1}, a, got) != [32]byte{} {
			t.Fatalf("Neg of %x doesn't take back", a)
		}
	}
	if scalar.Neg(bytesOf(order)) != [32]byte{} || scalar.Neg([32]byte{}) != [32]byte{} {
		t.Error("Neg of l, or of 0, isn't 0")
	}
}

func TestLaws(t *testing.T) {
	list := some(6)
	one := [32]byte{1}
	add := func(a, b [32]byte) [32]byte { return scalar.MulAdd(one, a, b) }
	mul := func(a, b [32]byte) [32]byte { return scalar.MulAdd(a, b, [32]byte{}) }
	for i := range list {
		a, b, c := list[i], list[(i+3)%len(list)], list[(i+7)%len(list)]
		if add(a, b) != add(b, a) || mul(a, b) != mul(b, a) || add(add(a, b), c) != add(a, add(b, c)) || mul(mul(a, b), c) != mul(a, mul(b, c)) {
			t.Fatal("sums or products hang on the order")
		}
		if mul(a, add(b, c)) != add(mul(a, b), mul(a, c)) || scalar.MulAdd(a, b, c) != add(mul(a, b), c) {
			t.Fatal("products of sums aren't sums of products")
		}
	}
}

func TestMemory(t *testing.T) {
	room := bytes.Repeat([]byte{7}, 80)
	before := bytes.Clone(room)
	first := scalar.Rest(room[:64])
	if !bytes.Equal(room, before) {
		t.Error("Rest changed what it was handed")
	}
	for i := range room {
		room[i] = 9
	}
	if scalar.Rest(room[:64]) == first || scalar.Rest(before[:64]) != first {
		t.Error("Rest kept what it was handed")
	}
}
