package code_test

import (
	"bytes"
	"math"
	"slices"
	"testing"

	"psephos/code"
)

const top = 1<<40 - 1

// written is the chapter's rule, built from the highest group down, so that it shares nothing with the program's way.
func written(n int) []byte {
	var b []byte
	for shift := 35; shift >= 0; shift -= 7 {
		group := n / (1 << shift) % 128
		if len(b) > 0 {
			group += 128
		}
		if group > 0 || shift == 0 {
			b = append(b, byte(group))
		}
	}
	slices.Reverse(b)
	return b
}

// edges are the numbers from lo to hi around which a group, a sign or a range ends, and some between.
func edges(lo, hi int) []int {
	var l []int
	for shift := range 63 {
		for near := -2; near <= 2; near++ {
			l = append(l, 1<<shift+near, -1<<shift+near)
		}
	}
	for n := 1; n < 1<<60; n = n*3 + 1 {
		l = append(l, n, -n)
	}
	l = append(l, math.MinInt, math.MinInt+1, math.MaxInt-1, math.MaxInt)
	l = slices.DeleteFunc(l, func(n int) bool { return n < lo || n > hi })
	slices.Sort(l)
	return slices.Compact(l)
}

// outside are such numbers below lo and above hi.
func outside(lo, hi int) []int {
	return append(edges(math.MinInt, lo-1), edges(hi+1, math.MaxInt)...)
}

// reads checks that what stands at index at is n, and ends at next.
func reads(t *testing.T, b []byte, at, n, next int) {
	t.Helper()
	if m, end, ok := code.TakeNumber(b, at); m != n || end != next || !ok {
		t.Errorf("TakeNumber(%v, %d) = %d, %d, %v; want %d, %d, true", b, at, m, end, ok, n, next)
	}
}

// refuses checks that neither decoder takes anything at index at.
func refuses(t *testing.T, b []byte, at int) {
	t.Helper()
	if n, next, ok := code.TakeNumber(b, at); n != 0 || next != 0 || ok {
		t.Errorf("TakeNumber(%v, %d) = %d, %d, %v; want 0, 0, false", b, at, n, next, ok)
	}
	if n, next, ok := code.TakeSigned(b, at); n != 0 || next != 0 || ok {
		t.Errorf("TakeSigned(%v, %d) = %d, %d, %v; want 0, 0, false", b, at, n, next, ok)
	}
}

// P1.1: the bytes of single numbers, as the chapter says them.
func TestNumberBytes(t *testing.T) {
	for _, c := range []struct {
		n    int
		want []byte
	}{
		{0, []byte{0}},
		{1, []byte{1}},
		{127, []byte{127}},
		{128, []byte{128, 1}},
		{255, []byte{255, 1}},
		{256, []byte{128, 2}},
		{300, []byte{172, 2}},
		{1<<14 - 1, []byte{255, 127}},
		{1 << 14, []byte{128, 128, 1}},
		{1<<21 - 1, []byte{255, 255, 127}},
		{1 << 21, []byte{128, 128, 128, 1}},
		{1 << 28, []byte{128, 128, 128, 128, 1}},
		{1<<35 - 1, []byte{255, 255, 255, 255, 127}},
		{1 << 35, []byte{128, 128, 128, 128, 128, 1}},
		{top - 1, []byte{254, 255, 255, 255, 255, 31}},
		{top, []byte{255, 255, 255, 255, 255, 31}},
	} {
		if b, ok := code.Number(c.n); !bytes.Equal(b, c.want) || !ok {
			t.Errorf("Number(%d) = %v, %v; want %v, true", c.n, b, ok, c.want)
		}
		reads(t, c.want, 0, c.n, len(c.want))
	}
}

// P1.1: what can be written is written by the rule, and read again wherever it stands.
func TestNumberThereAndBack(t *testing.T) {
	l := edges(0, top)
	for n := range 1 << 17 {
		l = append(l, n)
	}
	for _, n := range l {
		b, ok := code.Number(n)
		if !bytes.Equal(b, written(n)) || !ok {
			t.Fatalf("Number(%d) = %v, %v; want %v, true", n, b, ok, written(n))
		}
		reads(t, b, 0, n, len(b))
		for _, behind := range []byte{0, 1, 127, 128, 255} {
			among := append(append([]byte{128, 0, 255}, b...), behind)
			reads(t, among, 3, n, 3+len(b))
		}
	}
}

// P1.1: no bytes for what is below 0 or above 2^40 - 1.
func TestNumberOutOfRange(t *testing.T) {
	for _, n := range outside(0, top) {
		if b, ok := code.Number(n); len(b) != 0 || ok {
			t.Errorf("Number(%d) = %v, %v; want none, false", n, b, ok)
		}
	}
}

// P1.1: every string of up to two bytes is read exactly if it is the form of a number.
func TestTakeNumberShort(t *testing.T) {
	for one := range 256 {
		b := []byte{byte(one)}
		if one < 128 {
			reads(t, b, 0, one, 1)
		} else {
			refuses(t, b, 0)
		}
		for two := range 256 {
			b := []byte{byte(one), byte(two)}
			switch {
			case one < 128:
				reads(t, b, 0, one, 1)
			case two > 0 && two < 128:
				reads(t, b, 0, one-128+128*two, 2)
			default:
				refuses(t, b, 0)
			}
		}
	}
}

// P1.1: the last byte tells whether six bytes are too great, and whether they could be fewer.
func TestTakeNumberLastByte(t *testing.T) {
	for _, low := range []byte{128, 129, 200, 255} {
		b := bytes.Repeat([]byte{low}, 6)
		sum := int(low-128) * (1 + 1<<7 + 1<<14 + 1<<21 + 1<<28)
		for last := range 256 {
			b[5] = byte(last)
			if last >= 1 && last <= 31 {
				reads(t, b, 0, sum+last<<35, 6)
			} else {
				refuses(t, b, 0)
			}
		}
	}
}

// P1.1: an index that is not there.
func TestTakeNumberIndex(t *testing.T) {
	b := []byte{1, 172, 2, 3}
	reads(t, b, 0, 1, 1)
	reads(t, b, 1, 300, 3)
	reads(t, b, 2, 2, 3)
	reads(t, b, 3, 3, 4)
	for _, at := range []int{-1, -2, -4, -5, 4, 5, 100, math.MinInt, math.MinInt + 1, math.MaxInt - 1, math.MaxInt} {
		refuses(t, b, at)
		refuses(t, nil, at)
	}
	refuses(t, nil, 0)
	refuses(t, []byte{}, 0)
}

// P1.1: bytes that end within the number, even where more memory follows them.
func TestTakeNumberEndsWithin(t *testing.T) {
	for _, n := range edges(128, top) {
		b := written(n)
		for size := range len(b) {
			refuses(t, b[:size], 0)
			refuses(t, append([]byte{7}, b[:size]...), 1)
		}
	}
}

// P1.1: a number that is written in another way: with groups of 0 at its end.
func TestTakeNumberOtherwise(t *testing.T) {
	for _, n := range edges(0, 1<<35-1) {
		b := written(n)
		b[len(b)-1] += 128
		for len(b) < 9 {
			refuses(t, append(slices.Clone(b), 0), 0)
			b = append(b, 128)
		}
	}
}

// P1.1: a number that is too great, however many bytes it has.
func TestTakeNumberTooGreat(t *testing.T) {
	for _, b := range [][]byte{
		{128, 128, 128, 128, 128, 32},
		{255, 255, 255, 255, 255, 32},
		{255, 255, 255, 255, 255, 63},
		{255, 255, 255, 255, 255, 127},
		{128, 128, 128, 128, 128, 128, 1},
		{255, 255, 255, 255, 255, 159, 1},
		{255, 255, 255, 255, 255, 255, 127},
	} {
		refuses(t, b, 0)
	}
	for size := 6; size < 300; size++ {
		for _, low := range []byte{128, 129, 255} {
			for _, last := range []byte{0, 1, 31, 127} {
				refuses(t, append(bytes.Repeat([]byte{low}, size), last), 0)
			}
		}
	}
	refuses(t, bytes.Repeat([]byte{128}, 1<<20), 0)
}

// P1.1: arguments stay as they are, and every list that is given out is new.
func TestMemory(t *testing.T) {
	for _, n := range []int{0, 1, 300, top} {
		b, _ := code.Number(n)
		kept := slices.Clone(b)
		reads(t, b, 0, n, len(b))
		if !bytes.Equal(b, kept) {
			t.Errorf("TakeNumber changed %v to %v", kept, b)
		}
		for i := range b[:cap(b)] {
			b[:cap(b)][i] = 99
		}
		if c, _ := code.Number(n); !bytes.Equal(c, kept) {
			t.Errorf("Number(%d) = %v once an earlier result was written to; want %v", n, c, kept)
		}
	}
	for _, n := range []int{0, -1, 150, -1 << 39} {
		b, _ := code.Signed(n)
		kept := slices.Clone(b)
		clear(b)
		if c, _ := code.Signed(n); !bytes.Equal(c, kept) {
			t.Errorf("Signed(%d) = %v once an earlier result was written to; want %v", n, c, kept)
		}
	}
}

// P1.2: pairs of a number with a sign and the number that stands for it.
func TestZigZag(t *testing.T) {
	for _, c := range [][2]int{
		{0, 0}, {-1, 1}, {1, 2}, {-2, 3}, {2, 4}, {-64, 127}, {64, 128}, {150, 300},
		{1<<31 - 1, 1<<32 - 2}, {-1<<31 + 1, 1<<32 - 3},
		{1<<39 - 1, top - 1}, {-1 << 39, top}, {-1<<39 + 1, top - 2},
	} {
		if got := code.Zig(c[0]); got != c[1] {
			t.Errorf("Zig(%d) = %d; want %d", c[0], got, c[1])
		}
		if got := code.Zag(c[1]); got != c[0] {
			t.Errorf("Zag(%d) = %d; want %d", c[1], got, c[0])
		}
	}
	for _, n := range edges(-1<<39, 1<<39-1) {
		want := 2 * n
		if n < 0 {
			want = -2*n - 1
		}
		if got := code.Zig(n); got != want || code.Zag(got) != n {
			t.Errorf("Zig(%d) = %d, and back %d; want %d", n, got, code.Zag(got), want)
		}
	}
	for _, n := range edges(0, top) {
		if got := code.Zig(code.Zag(n)); got != n {
			t.Errorf("Zig(Zag(%d)) = %d", n, got)
		}
	}
}

// P1.2: out of their ranges Zig and Zag are 0, and Signed is false.
func TestSignedOutOfRange(t *testing.T) {
	for _, n := range outside(-1<<39, 1<<39-1) {
		if got := code.Zig(n); got != 0 {
			t.Errorf("Zig(%d) = %d; want 0", n, got)
		}
		if b, ok := code.Signed(n); len(b) != 0 || ok {
			t.Errorf("Signed(%d) = %v, %v; want none, false", n, b, ok)
		}
	}
	for _, n := range outside(0, top) {
		if got := code.Zag(n); got != 0 {
			t.Errorf("Zag(%d) = %d; want 0", n, got)
		}
	}
}

// P1.2: the bytes of single numbers with a sign.
func TestSignedBytes(t *testing.T) {
	for _, c := range []struct {
		n    int
		want []byte
	}{
		{0, []byte{0}},
		{-1, []byte{1}},
		{1, []byte{2}},
		{63, []byte{126}},
		{-64, []byte{127}},
		{64, []byte{128, 1}},
		{-65, []byte{129, 1}},
		{150, []byte{172, 2}},
		{1<<39 - 1, []byte{254, 255, 255, 255, 255, 31}},
		{-1 << 39, []byte{255, 255, 255, 255, 255, 31}},
	} {
		if b, ok := code.Signed(c.n); !bytes.Equal(b, c.want) || !ok {
			t.Errorf("Signed(%d) = %v, %v; want %v, true", c.n, b, ok, c.want)
		}
	}
}

// P1.2: what can be written with a sign is read again wherever it stands.
func TestSignedThereAndBack(t *testing.T) {
	l := edges(-1<<39, 1<<39-1)
	for n := range 1 << 15 {
		l = append(l, n, -n)
	}
	for _, n := range l {
		b, ok := code.Signed(n)
		if want := written(code.Zig(n)); !bytes.Equal(b, want) || !ok {
			t.Fatalf("Signed(%d) = %v, %v; want %v, true", n, b, ok, want)
		}
		for _, behind := range []byte{0, 1, 127, 128, 255} {
			among := append(append([]byte{128, 255}, b...), behind)
			if m, next, ok := code.TakeSigned(among, 2); m != n || next != 2+len(b) || !ok {
				t.Fatalf("TakeSigned(%v, 2) = %d, %d, %v; want %d, %d, true", among, m, next, ok, n, 2+len(b))
			}
		}
		for size := range len(b) {
			refuses(t, b[:size], 0)
		}
	}
}

// P1.1, P1.2: any bytes at any index are either refused or read back from exactly the bytes of their number.
func FuzzTake(f *testing.F) {
	f.Add([]byte{}, 0)
	f.Add([]byte{172, 2}, 0)
	f.Add([]byte{128, 0}, 0)
	f.Add([]byte{9, 255, 255, 255, 255, 255, 31}, 1)
	f.Add([]byte{255, 255, 255, 255, 255, 32}, 0)
	f.Add([]byte{1}, -1)
	f.Fuzz(func(t *testing.T, b []byte, at int) {
		n, next, ok := code.TakeNumber(b, at)
		if !ok {
			refuses(t, b, at)
			return
		}
		if want, ok := code.Number(n); !ok || !bytes.Equal(b[at:next], want) {
			t.Errorf("TakeNumber(%v, %d) = %d, %d; want the bytes %v", b, at, n, next, want)
		}
		if m, end, ok := code.TakeSigned(b, at); m != code.Zag(n) || end != next || !ok {
			t.Errorf("TakeSigned(%v, %d) = %d, %d, %v; want %d, %d, true", b, at, m, end, ok, code.Zag(n), next)
		}
	})
}
