package curve_test

import (
	"bytes"
	"encoding/hex"
	"math/big"
	"math/rand"
	"slices"
	"testing"

	"hustings/curve"
)

// The curve once more, by plain numbers and pairs.

var (
	prime = new(big.Int).Sub(new(big.Int).Lsh(big.NewInt(1), 255), big.NewInt(19))
	order = new(big.Int).Add(new(big.Int).Lsh(big.NewInt(1), 252), text("27742317777372353535851937790883648493"))
	dee   = over(big.NewInt(-121665), big.NewInt(121666))
)

type pair struct{ x, y *big.Int }

func text(s string) *big.Int {
	n, _ := new(big.Int).SetString(s, 10)
	return n
}

func mod(n *big.Int) *big.Int { return new(big.Int).Mod(n, prime) }

func mul(list ...*big.Int) *big.Int {
	out := big.NewInt(1)
	for _, n := range list {
		out = mod(new(big.Int).Mul(out, n))
	}
	return out
}

func add(a, b *big.Int) *big.Int { return mod(new(big.Int).Add(a, b)) }

func over(a, b *big.Int) *big.Int { return mul(a, new(big.Int).ModInverse(mod(b), prime)) }

func (p pair) add(q pair) pair {
	one := big.NewInt(1)
	m := mul(dee, p.x, q.x, p.y, q.y)
	return pair{
		over(add(mul(p.x, q.y), mul(q.x, p.y)), add(one, m)),
		over(add(mul(p.y, q.y), mul(p.x, q.x)), add(one, new(big.Int).Neg(m))),
	}
}

func (p pair) mul(n *big.Int) pair {
	out := pair{big.NewInt(0), big.NewInt(1)}
	for i := n.BitLen() - 1; i >= 0; i-- {
		out = out.add(out)
		if n.Bit(i) == 1 {
			out = out.add(p)
		}
	}
	return out
}

func (p pair) bytes() [32]byte {
	b := bytesOf(p.y)
	b[31] |= byte(p.x.Bit(0)) << 7
	return b
}

// decode: the pair of bytes, as the document says it.
func decode(b [32]byte) (pair, bool) {
	odd := b[31]>>7 == 1
	b[31] &= 0x7f
	y := number(b)
	if y.Cmp(prime) >= 0 {
		return pair{}, false
	}
	y2, one := mul(y, y), big.NewInt(1)
	x := new(big.Int).ModSqrt(over(add(y2, big.NewInt(-1)), add(mul(dee, y2), one)), prime)
	if x == nil || x.Sign() == 0 && odd {
		return pair{}, false
	}
	if (x.Bit(0) == 1) != odd {
		x = mod(new(big.Int).Neg(x))
	}
	return pair{x, y}, true
}

func number(b [32]byte) *big.Int {
	slices.Reverse(b[:])
	return new(big.Int).SetBytes(b[:])
}

func bytesOf(n *big.Int) [32]byte {
	var b [32]byte
	n.FillBytes(b[:])
	slices.Reverse(b[:])
	return b
}

// small is the bytes of all points of which eight times make Zero.
func small() [][32]byte {
	minus := new(big.Int).Sub(prime, big.NewInt(1))
	out := [][32]byte{{1}, bytesOf(minus), {}, {31: 0x80}}
	for _, s := range []string{"26e8958fc2b227b045c3f489f2ef98f0d5dfac05d3c63339b13802886d53fc05", "c7176a703d4dd84fba3c0b760d10670f2a2053fa2c39ccc64ec7fd7792ac037a"} {
		b, _ := hex.DecodeString(s)
		p := [32]byte(b)
		q := p
		q[31] |= 0x80
		out = append(out, p, q)
	}
	return out
}

// some is points of all kinds, with their pairs.
func some(t *testing.T, seed int64) ([]curve.Point, []pair) {
	t.Helper()
	rnd := rand.New(rand.NewSource(seed))
	texts := small()
	for len(texts) < 24 {
		var b [32]byte
		rnd.Read(b[:])
		if _, ok := decode(b); ok {
			texts = append(texts, b)
		}
	}
	var ps []curve.Point
	var qs []pair
	for _, b := range texts {
		p, ok := curve.Decode(b)
		q, right := decode(b)
		if !ok || !right {
			t.Fatalf("Decode of %x: false", b)
		}
		ps, qs = append(ps, p), append(qs, q)
	}
	y := over(big.NewInt(4), big.NewInt(5))
	base, _ := decode(bytesOf(y))
	return append(ps, curve.Zero(), curve.Base()), append(qs, pair{big.NewInt(0), big.NewInt(1)}, base)
}

func numbers(seed int64) [][32]byte {
	rnd := rand.New(rand.NewSource(seed))
	var full, any [32]byte
	for i := range full {
		full[i] = 0xff
	}
	rnd.Read(any[:])
	less := new(big.Int).Sub(order, big.NewInt(1))
	return [][32]byte{{}, {1}, {2}, {3}, {15}, {16}, {17}, {255}, {0, 1}, {31: 0x80}, {31: 0x10}, full, any, bytesOf(order), bytesOf(less)}
}

func TestExamples(t *testing.T) {
	b := curve.Base().Bytes()
	if b[0] != 0x58 || !bytes.Equal(b[1:], bytes.Repeat([]byte{0x66}, 31)) {
		t.Errorf("Base's bytes are %x", b)
	}
	if curve.Zero().Bytes() != [32]byte{1} {
		t.Errorf("Zero's bytes are %x", curve.Zero().Bytes())
	}
	if _, ok := curve.Decode([32]byte{2}); ok {
		t.Error("02 and noughts is a point's")
	}
}

func TestDecode(t *testing.T) {
	rnd := rand.New(rand.NewSource(1))
	list := small()
	for d := int64(-25); d < 40; d++ { // y right below p, and the numbers from p on, which are none's
		n := new(big.Int).Add(prime, big.NewInt(d))
		if n.BitLen() <= 255 {
			b := bytesOf(n)
			list = append(list, b)
			b[31] |= 0x80
			list = append(list, b)
		}
	}
	for i := range 40 {
		list = append(list, [32]byte{byte(i)}, [32]byte{0: byte(i), 31: 0x80})
	}
	list = append(list, [32]byte{0: 1, 31: 0x80}) // x would be 0 and odd
	for range 200 {
		var b [32]byte
		rnd.Read(b[:])
		list = append(list, b)
	}
	for _, b := range list {
		p, ok := curve.Decode(b)
		q, right := decode(b)
		if ok != right {
			t.Fatalf("Decode of %x: %v", b, ok)
		}
		if ok && (p.Bytes() != b || q.bytes() != b) {
			t.Fatalf("the bytes of the point of %x are %x", b, p.Bytes())
		}
	}
}

func TestAdd(t *testing.T) {
	ps, qs := some(t, 2)
	for i, p := range ps {
		for j, q := range ps {
			if got := p.Add(q); got.Bytes() != qs[i].add(qs[j]).bytes() {
				t.Fatalf("the sum of %x and %x is %x", p.Bytes(), q.Bytes(), got.Bytes())
			}
			if !p.Add(q).Is(q.Add(p)) {
				t.Fatal("sums hang on the order")
			}
			if p.Is(q) != (p.Bytes() == q.Bytes()) {
				t.Fatalf("Is of %x and %x is wrong", p.Bytes(), q.Bytes())
			}
			if !p.Add(q).Add(q.Neg()).Is(p) {
				t.Fatal("Neg doesn't take back")
			}
		}
		if !p.Add(curve.Zero()).Is(p) || !p.Add(p.Neg()).Is(curve.Zero()) {
			t.Fatal("Zero changes something, or Neg doesn't take back")
		}
		neg := pair{mod(new(big.Int).Neg(qs[i].x)), qs[i].y}
		if p.Neg().Bytes() != neg.bytes() {
			t.Fatalf("Neg of %x is wrong", p.Bytes())
		}
	}
	a, b, c := ps[9], ps[12], ps[15]
	if !a.Add(b).Add(c).Is(a.Add(b.Add(c))) {
		t.Error("sums hang on the order")
	}
}

func TestIs(t *testing.T) {
	ps, _ := some(t, 3)
	for _, p := range ps {
		if p.Add(p).Is(p) != p.Is(curve.Zero()) {
			t.Fatalf("twice %x is it", p.Bytes())
		}
		other, _ := curve.Decode(p.Bytes())
		if moved := p.Add(curve.Base()).Add(curve.Base().Neg()); !moved.Is(p) || !p.Is(other) {
			t.Fatalf("%x isn't itself, come to in another way", p.Bytes())
		}
	}
	top, _ := curve.Decode(small()[1])
	if top.Is(curve.Zero()) { // 0, -1 and 0, 1 have the same x
		t.Error("0, -1 is Zero")
	}
	if p := curve.Base(); p.Is(p.Neg()) { // and these the same y
		t.Error("Base is its Neg")
	}
}

func TestMul(t *testing.T) {
	ps, qs := some(t, 4)
	for i, p := range ps {
		for _, n := range numbers(int64(i)) {
			if got := p.Mul(n); got.Bytes() != qs[i].mul(number(n)).bytes() {
				t.Fatalf("%x times %x is %x", n, p.Bytes(), got.Bytes())
			}
		}
		if !p.Mul([32]byte{}).Is(curve.Zero()) || !p.Mul([32]byte{1}).Is(p) || !p.Mul([32]byte{3}).Is(p.Add(p).Add(p)) {
			t.Fatal("so many times a point isn't the sum")
		}
	}
	a, b, n, m := ps[10], ps[11], [32]byte{7, 9, 31: 3}, [32]byte{200, 1, 2, 3}
	if !a.Add(b).Mul(n).Is(a.Mul(n).Add(b.Mul(n))) {
		t.Error("so many times a sum isn't the sum of so many times")
	}
	sum := bytesOf(new(big.Int).Add(number(n), number(m)))
	if !a.Mul(n).Add(a.Mul(m)).Is(a.Mul(sum)) {
		t.Error("sums of so many times aren't so many times")
	}
}

func TestOrder(t *testing.T) {
	if !curve.Base().Mul(bytesOf(order)).Is(curve.Zero()) {
		t.Error("Base so many times as l says isn't Zero")
	}
	less := bytesOf(new(big.Int).Sub(order, big.NewInt(1)))
	if !curve.Base().Mul(less).Is(curve.Base().Neg()) {
		t.Error("Base l - 1 times isn't its Neg")
	}
	if curve.Base().Mul([32]byte{8}).Is(curve.Zero()) {
		t.Error("Base 8 times is Zero")
	}
}

func BenchmarkMul(b *testing.B) {
	p := curve.Base()
	n := [32]byte{1, 2, 3, 31: 15}
	for range b.N {
		p = p.Mul(n)
	}
}
