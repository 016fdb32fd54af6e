// Package letters is layer 1: bytes as letters. See shared/doc/01-letters.md.
package letters

const (
	common  = "ABCDEFGHIJKLMNOPQRSTUVWXYZabcdefghijklmnopqrstuvwxyz0123456789"
	plain   = common + "+/"
	address = common + "-_"
)

// Encode: bytes as letters, without padding.
func Encode(b []byte, forURL bool) string {
	signs := alphabet(forURL)
	out := make([]byte, 0, Len(len(b)))
	bits, count := uint32(0), 0 // what was shifted out above the last count bits is never looked at
	for _, c := range b {
		bits = bits<<8 | uint32(c)
		for count += 8; count >= 6; count -= 6 {
			out = append(out, signs[bits>>(count-6)&63])
		}
	}
	if count > 0 {
		out = append(out, signs[bits<<(6-count)&63])
	}
	return string(out)
}

func alphabet(forURL bool) string {
	if forURL {
		return address
	}
	return plain
}

// Decode: the bytes of letters; false: they are none's.
func Decode(s string, forURL bool) ([]byte, bool) {
	out := make([]byte, 0, len(s)/4*3+3)
	bits, count := uint32(0), 0
	for _, r := range s {
		n, ok := number(r, forURL)
		if !ok {
			return nil, false
		}
		bits = bits<<6 | n
		count += 6
		if count >= 8 {
			count -= 8
			out = append(out, byte(bits>>count))
		}
	}
	alone := count == 6 // six bits that no byte could have left
	if alone || bits&(1<<count-1) != 0 {
		return nil, false
	}
	return out, true
}

// number: the place of a letter in the alphabet; false: it stands in none.
func number(r rune, forURL bool) (uint32, bool) {
	last, end := '+', '/'
	if forURL {
		last, end = '-', '_'
	}
	switch {
	case 'A' <= r && r <= 'Z':
		return uint32(r - 'A'), true
	case 'a' <= r && r <= 'z':
		return uint32(r-'a') + 26, true
	case '0' <= r && r <= '9':
		return uint32(r-'0') + 52, true
	case r == last:
		return 62, true
	case r == end:
		return 63, true
	}
	return 0, false
}

// Len: how many letters so many bytes have.
func Len(n int) int {
	if n < 1 {
		return 0
	}
	whole := n / 3 * 4
	switch n % 3 {
	case 1:
		return whole + 2
	case 2:
		return whole + 3
	}
	return whole
}
