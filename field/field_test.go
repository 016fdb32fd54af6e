package field_test

import (
	"math/big"
	"math/rand"
	"slices"
	"testing"

	"hustings/field"
)

var prime = new(big.Int).Sub(new(big.Int).Lsh(big.NewInt(1), 255), big.NewInt(19))

func number(b [32]byte) *big.Int {
	slices.Reverse(b[:])
	return new(big.Int).SetBytes(b[:])
}

func bytesOf(n *big.Int) [32]byte {
	var b [32]byte
	n.FillBytes(b[:])
	slices.Reverse(b[:])
	return b
}

func rest(n *big.Int) *big.Int { return new(big.Int).Mod(n, prime) }

// near is p, 2^255, 2^256 and other edges, and numbers right beside them.
func near() [][32]byte {
	var out [][32]byte
	top := new(big.Int).Lsh(big.NewInt(1), 256)
	for _, at := range []*big.Int{big.NewInt(0), prime, new(big.Int).Lsh(prime, 1), new(big.Int).Lsh(big.NewInt(1), 255), top, new(big.Int).Lsh(big.NewInt(1), 51), new(big.Int).Lsh(big.NewInt(1), 102), new(big.Int).Lsh(big.NewInt(1), 153), new(big.Int).Lsh(big.NewInt(1), 204), new(big.Int).Rsh(prime, 1)} {
		for d := int64(-40); d <= 40; d += 1 {
			n := new(big.Int).Add(at, big.NewInt(d))
			if n.Sign() >= 0 && n.Cmp(top) < 0 {
				out = append(out, bytesOf(n))
			}
		}
	}
	return out
}

// some is edges and numbers by chance.
func some(seed int64) [][32]byte {
	rnd := rand.New(rand.NewSource(seed))
	edges := near()
	var out [][32]byte
	for range 60 {
		var b [32]byte
		rnd.Read(b[:])
		out = append(out, b, edges[rnd.Intn(len(edges))])
	}
	var full, half [32]byte
	for i := range full {
		full[i], half[i] = 0xff, 0xaa
	}
	return append(out, full, half, [32]byte{}, [32]byte{1}, [32]byte{2}, bytesOf(new(big.Int).Sub(prime, big.NewInt(1))))
}

func want(t *testing.T, what string, got field.Elem, n *big.Int) {
	t.Helper()
	if b := got.Bytes(); b != bytesOf(rest(n)) {
		t.Fatalf("%s: %x, want %x", what, b, bytesOf(rest(n)))
	}
}

func TestOf(t *testing.T) {
	for _, b := range append(near(), some(1)...) {
		want(t, "Of", field.Of(b), number(b))
	}
	var full [32]byte
	for i := range full {
		full[i] = 0xff
	}
	if !field.Of(full).Is(field.Small(37)) || !field.Of(bytesOf(prime)).Is(field.Elem{}) {
		t.Error("Of of 2^256 - 1 isn't 37, or of p isn't 0")
	}
	for _, n := range []uint32{0, 1, 2, 19, 1 << 31, 1<<32 - 1} {
		want(t, "Small", field.Small(n), big.NewInt(int64(n)))
	}
	if (field.Elem{}).Bytes() != [32]byte{} {
		t.Error("the zero Elem isn't 0")
	}
}

func TestSumsAndProducts(t *testing.T) {
	list := some(2)
	for _, x := range list {
		for _, y := range list {
			a, b, m, n := field.Of(x), field.Of(y), number(x), number(y)
			want(t, "Add", a.Add(b), new(big.Int).Add(m, n))
			want(t, "Sub", a.Sub(b), new(big.Int).Sub(m, n))
			want(t, "Mul", a.Mul(b), new(big.Int).Mul(m, n))
		}
		want(t, "Neg", field.Of(x).Neg(), new(big.Int).Neg(number(x)))
	}
}

// What comes out of reckoning can be reckoned with again, however often.
func TestLongReckoning(t *testing.T) {
	rnd := rand.New(rand.NewSource(3))
	list := some(4)
	a, n := field.Of(list[0]), number(list[0])
	for range 20000 {
		b := list[rnd.Intn(len(list))]
		switch rnd.Intn(6) {
		case 0:
			a, n = a.Mul(field.Of(b)), new(big.Int).Mul(n, number(b))
		case 1:
			a, n = a.Sub(field.Of(b)), new(big.Int).Sub(n, number(b))
		case 2:
			a, n = a.Neg(), new(big.Int).Neg(n)
		case 3:
			a, n = a.Add(a), new(big.Int).Add(n, n)
		case 4:
			a, n = a.Sub(a.Add(a)), new(big.Int).Neg(n)
		default:
			a, n = a.Add(field.Of(b)), new(big.Int).Add(n, number(b))
		}
		n = rest(n)
		want(t, "long reckoning", a, n)
	}
}

func TestPow(t *testing.T) {
	list := some(5)
	for i, x := range list {
		for _, e := range [][32]byte{list[(i+1)%len(list)], {}, {1}, {2}, {15}, {16}, {0, 1}, {31: 0x80}} {
			p := new(big.Int).Exp(rest(number(x)), number(e), prime)
			want(t, "Pow", field.Of(x).Pow(e), p)
		}
	}
	if !(field.Elem{}).Pow([32]byte{}).Is(field.Small(1)) {
		t.Error("0 to the power 0 isn't 1")
	}
	if !(field.Elem{}).Pow([32]byte{3}).Is(field.Elem{}) {
		t.Error("0 to the power 3 isn't 0")
	}
}

func TestInv(t *testing.T) {
	for _, x := range some(6) {
		a := field.Of(x)
		if a.Is(field.Elem{}) {
			want(t, "Inv of 0", a.Inv(), big.NewInt(0))
			continue
		}
		want(t, "Inv", a.Inv(), new(big.Int).ModInverse(rest(number(x)), prime))
		if !a.Mul(a.Inv()).Is(field.Small(1)) {
			t.Fatalf("%x and its inverse don't make 1", x)
		}
	}
	if !field.Of(bytesOf(prime)).Inv().Is(field.Elem{}) {
		t.Error("Inv of p isn't 0")
	}
}

func TestIsOdd(t *testing.T) {
	list := append(some(7), near()...)
	for i, x := range list {
		a, n := field.Of(x), rest(number(x))
		if a.Odd() != (n.Bit(0) == 1) {
			t.Fatalf("Odd of %x is wrong", x)
		}
		y := list[(i*7+1)%len(list)]
		if a.Is(field.Of(y)) != (n.Cmp(rest(number(y))) == 0) {
			t.Fatalf("Is of %x and %x is wrong", x, y)
		}
		if !a.Is(a.Add(field.Small(5)).Sub(field.Small(5))) {
			t.Fatalf("%x isn't what it is, told another way", x)
		}
	}
}

func TestRoot(t *testing.T) {
	if r, ok := field.Small(4).Root(); !ok || !r.Is(field.Small(2)) {
		t.Error("the root of 4 isn't 2")
	}
	if r, ok := field.Small(2).Root(); ok || !r.Is(field.Elem{}) {
		t.Error("2 has a root")
	}
	if r, ok := (field.Elem{}).Root(); !ok || !r.Is(field.Elem{}) {
		t.Error("the root of 0 isn't 0")
	}
	minus := field.Small(1).Neg()
	if r, ok := minus.Root(); !ok || !r.Mul(r).Is(minus) || r.Odd() {
		t.Error("the root of -1 is wrong")
	}
	for _, x := range some(8) {
		a, n := field.Of(x), rest(number(x))
		r, ok := a.Root()
		if ok != (new(big.Int).ModSqrt(n, prime) != nil) {
			t.Fatalf("whether %x has a root is wrong", x)
		}
		if ok && (!r.Mul(r).Is(a) || r.Odd()) || !ok && !r.Is(field.Elem{}) {
			t.Fatalf("the root of %x is wrong", x)
		}
		s, ok := a.Mul(a).Root()
		if !ok || s.Odd() || !s.Is(a) && !s.Is(a.Neg()) {
			t.Fatalf("the root of the square of %x is wrong", x)
		}
	}
}

func TestLaws(t *testing.T) {
	list := some(9)
	for i := range list {
		a, b, c := field.Of(list[i]), field.Of(list[(i+3)%len(list)]), field.Of(list[(i+7)%len(list)])
		if !a.Add(b).Is(b.Add(a)) || !a.Mul(b).Is(b.Mul(a)) || !a.Add(b).Add(c).Is(a.Add(b.Add(c))) || !a.Mul(b).Mul(c).Is(a.Mul(b.Mul(c))) {
			t.Fatal("sums or products hang on the order")
		}
		if !a.Mul(b.Add(c)).Is(a.Mul(b).Add(a.Mul(c))) {
			t.Fatal("products of sums aren't sums of products")
		}
		if !a.Add(b).Sub(b).Is(a) || !a.Neg().Neg().Is(a) || !a.Add(a.Neg()).Is(field.Elem{}) || !a.Inv().Inv().Is(a) {
			t.Fatal("differences or inverses don't take back")
		}
	}
}

func BenchmarkMul(b *testing.B) {
	x := field.Small(77).Inv()
	for range b.N {
		x = x.Mul(x)
	}
}
