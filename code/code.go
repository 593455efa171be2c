// Package code: numbers as bytes, in groups of 7 bits, the lowest group first; so each number has exactly one form.
package code

const (
	width = 7               // bits in a group
	more  = 1 << width      // added to a byte that another one follows
	bits  = 40              // bits of the greatest number
	most  = 1<<bits - 1     // the greatest number that can be written
	half  = 1 << (bits - 1) // numbers with a sign go from -half to half - 1
)

// Number returns the bytes with which n is written.
func Number(n int) ([]byte, bool) {
	if n < 0 || n > most {
		return nil, false
	}
	var b []byte
	for n >= more {
		b = append(b, byte(n%more+more))
		n >>= width
	}
	return append(b, byte(n)), true
}

// Signed returns the bytes with which n, a number with a sign, is written.
func Signed(n int) ([]byte, bool) {
	if !signed(n) {
		return nil, false
	}
	return Number(Zig(n))
}

// TakeNumber returns the number that is written in b from index at on, and the index after it.
func TakeNumber(b []byte, at int) (n, next int, ok bool) {
	var group, shift int
	if at < 0 {
		goto none
	}
	next = at

group:
	// Held against the bits that fit, so that no run of bytes, however long, shifts a group out of the number.
	if next >= len(b) || shift >= bits {
		goto none
	}
	group = int(b[next])
	next++
	if group < more {
		goto last
	}
	n += (group - more) << shift
	shift += width
	goto group

last:
	// A last group of 0 behind others adds nothing: the number has a shorter form.
	if group == 0 && shift > 0 {
		goto none
	}
	n += group << shift
	if n > most {
		goto none
	}
	return n, next, true

none:
	return 0, 0, false
}

// TakeSigned returns the number with a sign that is written in b from index at on, and the index after it.
func TakeSigned(b []byte, at int) (n, next int, ok bool) {
	n, next, ok = TakeNumber(b, at)
	return Zag(n), next, ok
}

// Zig returns the number without a sign that stands for n.
func Zig(n int) int {
	if !signed(n) {
		return 0
	}
	if n < 0 {
		return -2*n - 1
	}
	return 2 * n
}

// Zag returns the number whose Zig is n.
func Zag(n int) int {
	if n < 0 || n > most {
		return 0
	}
	if n%2 == 1 {
		return -(n + 1) / 2
	}
	return n / 2
}

func signed(n int) bool {
	return -half <= n && n < half
}
