package crc_test

import (
	"bytes"
	"math"
	"testing"

	"lamina/crc"
)

// goOn is the register gone on with over bytes, bit by bit, as the document tells it.
func goOn(register uint32, b []byte) uint32 {
	for _, c := range b {
		register ^= uint32(c)
		for range 8 {
			out := register & 1
			register >>= 1
			if out == 1 {
				register ^= 0x82f63b78
			}
		}
	}
	return register
}

func sumOf(b []byte) uint32 { return ^goOn(0xffffffff, b) }

// text is n bytes of a row that hangs on seed.
func text(seed uint32, n int) []byte {
	out := make([]byte, n)
	for i := range out {
		seed = seed*1664525 + 1013904223
		out[i] = byte(seed >> 24)
	}
	return out
}

// numbers is numbers of all kinds, the edges among them.
func numbers() []uint32 {
	out := []uint32{0, 1, 2, 0x7fffffff, 0x80000000, 0x82f63b78, 0xfffffffe, 0xffffffff}
	seed := uint32(7)
	for range 24 {
		seed = seed*1664525 + 1013904223
		out = append(out, seed)
	}
	return out
}

// P1.1

func TestSumOfKnownTexts(t *testing.T) {
	rising, falling := make([]byte, 32), make([]byte, 32)
	for i := range rising {
		rising[i], falling[i] = byte(i), byte(31-i)
	}
	for _, c := range []struct {
		text []byte
		want uint32
	}{
		{[]byte("123456789"), 0xe3069283},
		{[]byte("a"), 0xc1d04330},
		{make([]byte, 32), 0x8a9136aa},
		{bytes.Repeat([]byte{255}, 32), 0x62a8ab43},
		{rising, 0x46dd794e},
		{falling, 0x113fdb5c},
	} {
		if got := crc.Sum(c.text); got != c.want {
			t.Errorf("Sum(%x) is %08x, not %08x", c.text, got, c.want)
		}
	}
}

func TestSumOfNothing(t *testing.T) {
	for _, parts := range [][][]byte{nil, {}, {nil}, {{}}, {nil, {}, nil}} {
		if got := crc.Sum(parts...); got != 0 {
			t.Errorf("Sum of %d empty parts is %08x", len(parts), got)
		}
	}
}

func TestSumOfEachByte(t *testing.T) {
	for c := range 256 {
		b := []byte{byte(c)}
		if got := crc.Sum(b); got != sumOf(b) {
			t.Errorf("Sum(%x) is %08x, not %08x", b, got, sumOf(b))
		}
	}
}

func TestSumOfLengths(t *testing.T) {
	for n := range 700 {
		b := text(uint32(n), n)
		if got := crc.Sum(b); got != sumOf(b) {
			t.Errorf("of %d bytes: %08x, not %08x", n, got, sumOf(b))
		}
	}
}

func TestGoOfAnyNumber(t *testing.T) {
	b := text(3, 40)
	for _, sum := range numbers() {
		if crc.Go(sum, nil) != sum || crc.Go(sum, []byte{}) != sum {
			t.Errorf("Go(%08x) over nothing is another one", sum)
		}
		for n := range b {
			if got, want := crc.Go(sum, b[:n]), ^goOn(^sum, b[:n]); got != want {
				t.Errorf("Go(%08x) over %d bytes is %08x, not %08x", sum, n, got, want)
			}
		}
	}
}

func TestGoOfNothingGoneOnWith(t *testing.T) {
	b := text(4, 9)
	if got := crc.Go(0, b); got != sumOf(b) {
		t.Errorf("Go on with no text is %08x, not %08x", got, sumOf(b))
	}
}

func TestJoinOfAnyNumbers(t *testing.T) {
	for _, a := range numbers() {
		for _, b := range numbers() {
			for _, n := range []int{0, 1, 2, 3, 4, 5, 7, 8, 15, 16, 31, 33, 64, 255, 256, 1000} {
				want := goOn(a, make([]byte, n)) ^ b
				if got := crc.Join(a, b, n); got != want {
					t.Fatalf("Join(%08x, %08x, %d) is %08x, not %08x", a, b, n, got, want)
				}
			}
		}
	}
}

func TestJoinOfLengthBelowNought(t *testing.T) {
	for _, n := range []int{-1, -2, -3, -8, -1 << 32, math.MinInt + 1, math.MinInt} {
		for _, a := range numbers() {
			if got := crc.Join(a, 0x1234567, n); got != a^0x1234567 {
				t.Errorf("Join(%08x, .., %d) is %08x", a, n, got)
			}
		}
	}
}

// The register is what it was behind 2^31 - 1 shifts, so behind as many bytes: the greatest lengths are held against small ones.
func TestJoinOfGreatLengths(t *testing.T) {
	const round = 1<<31 - 1
	for _, n := range []int{round, round + 1, round * 5, 1 << 31, 1 << 40, 1<<62 + 3, math.MaxInt - 1, math.MaxInt} {
		for _, a := range numbers() {
			rest := n % round
			if got, want := crc.Join(a, 9, n), crc.Join(a, 9, rest); got != want {
				t.Errorf("Join(%08x, 9, %d) is %08x, not %08x", a, n, got, want)
			}
			if rest < 1000 && crc.Join(a, 9, n) != goOn(a, make([]byte, rest))^9 {
				t.Errorf("Join(%08x, 9, %d) is not as over %d bytes", a, n, rest)
			}
		}
	}
}

func TestJoinOfTexts(t *testing.T) {
	b := text(5, 300)
	for n := range len(b) + 1 {
		if got := crc.Join(sumOf(b[:n]), sumOf(b[n:]), len(b)-n); got != sumOf(b) {
			t.Errorf("of %d and %d bytes: %08x, not %08x", n, len(b)-n, got, sumOf(b))
		}
	}
}

// P1.2

func TestPartsDoNotMatter(t *testing.T) {
	b := text(6, 30)
	for i := range len(b) + 1 {
		for j := i; j <= len(b); j++ {
			if got := crc.Sum(b[:i], nil, b[i:j], []byte{}, b[j:]); got != sumOf(b) {
				t.Errorf("parted at %d and %d: %08x, not %08x", i, j, got, sumOf(b))
			}
			if got := crc.Go(crc.Go(crc.Sum(b[:i]), b[i:j]), b[j:]); got != sumOf(b) {
				t.Errorf("gone on with at %d and %d: %08x, not %08x", i, j, got, sumOf(b))
			}
		}
	}
	var bytesOfIt [][]byte
	for i := range b {
		bytesOfIt = append(bytesOfIt, b[i:i+1])
	}
	if got := crc.Sum(bytesOfIt...); got != sumOf(b) {
		t.Errorf("a part each byte: %08x, not %08x", got, sumOf(b))
	}
	if got, want := crc.Sum(b, b), sumOf(append(bytes.Clone(b), b...)); got != want {
		t.Errorf("one part twice: %08x, not %08x", got, want)
	}
}

func TestOrderOfPartsMatters(t *testing.T) {
	if crc.Sum([]byte("ab"), []byte("c")) == crc.Sum([]byte("c"), []byte("ab")) {
		t.Error("the parts' order makes no difference")
	}
}

// changed is a copy of b, of which four bytes from at on (or as many as there are) were changed by these bits.
func changed(b []byte, at int, bits uint32) []byte {
	out := bytes.Clone(b)
	for i := range 4 {
		if at+i < len(out) {
			out[at+i] ^= byte(bits >> (8 * i))
		}
	}
	return out
}

func TestChangedBitsAreSeen(t *testing.T) {
	var patterns []uint32
	for i := range 32 {
		for j := range i + 1 {
			patterns = append(patterns, 1<<i|1<<j)
		}
	}
	patterns = append(patterns, numbers()...)
	for _, n := range []int{1, 2, 3, 4, 5, 8, 124, 128} {
		b := text(uint32(n), n)
		sum := crc.Sum(b)
		for at := range b {
			for _, p := range patterns {
				other := changed(b, at, p)
				if !bytes.Equal(other, b) && crc.Sum(other) == sum {
					t.Fatalf("of %d bytes, bits %08x changed at %d are not seen", n, p, at)
				}
			}
		}
	}
}

func TestShortTextsDiffer(t *testing.T) {
	seen := map[uint32]int{}
	for i := range 1 << 16 {
		sum := crc.Sum([]byte{byte(i)}, []byte{byte(i >> 8)})
		if j, ok := seen[sum]; ok {
			t.Fatalf("%04x and %04x have one sum", i, j)
		}
		seen[sum] = i
	}
}

// P1.3

func TestHandedInStays(t *testing.T) {
	room := text(8, 64)
	was := bytes.Clone(room)
	parts := [][]byte{room[:10], nil, room[10:10], room[20:40], room[:3]}
	spare := parts[:3]
	crc.Sum(parts...)
	crc.Sum(spare...)
	crc.Go(77, room[:16])
	if !bytes.Equal(room, was) {
		t.Error("bytes were changed, or the room behind them")
	}
	wanted := [][]byte{was[:10], nil, was[10:10], was[20:40], was[:3]}
	for i, p := range parts {
		if !bytes.Equal(p, wanted[i]) || (p == nil) != (wanted[i] == nil) {
			t.Errorf("part %d was changed", i)
		}
	}
}

func TestHandedInIsNotKept(t *testing.T) {
	b := text(9, 20)
	first := crc.Sum(b)
	b[3] ^= 1
	if crc.Sum(b) != sumOf(b) || crc.Sum(b) == first {
		t.Error("the sum is of what was handed in earlier")
	}
	b[3] ^= 1
	if crc.Sum(b) != first {
		t.Error("the sum of one text is another one later")
	}
}
