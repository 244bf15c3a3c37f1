package box_test

import (
	"bytes"
	"errors"
	"math"
	"slices"
	"testing"

	"lamina/api"
	"lamina/box"
	"lamina/crc"
)

// want tells of an error that isn't the one that is asked for.
func want(t *testing.T, what string, got, asked error) {
	t.Helper()
	if got == nil && asked == nil {
		return
	}
	if got == nil || asked == nil || !errors.Is(got, asked) {
		t.Errorf("%s answers %v, not %v", what, got, asked)
	}
}

// must ends the test if there was an error.
func must(t *testing.T, err error) {
	t.Helper()
	if err != nil {
		t.Fatal(err)
	}
}

// some is n bytes, of which none is 0 or as the one beside it.
func some(n int) []byte {
	b := make([]byte, n)
	for i := range b {
		b[i] = byte(1 + i%255)
	}
	return b
}

// same tells whether two boxes are the same: no data are as nil.
func same(a, b box.Box) bool {
	return a.Kind == b.Kind && a.Gen == b.Gen && a.Number == b.Number && bytes.Equal(a.Data, b.Data)
}

// boxes is boxes with all edges of their numbers and data.
func boxes() []box.Box {
	var l []box.Box
	for _, kind := range []int{1, 2, 127, 128, 254, 255} {
		for _, gen := range []int{0, 1, 255, 256, 0x0102030405060708, 1<<62 - 1, 1 << 62} {
			for _, number := range []int{0, 1, 256, 0x01020304, 1<<31 - 2, 1<<31 - 1} {
				l = append(l, box.Box{Kind: kind, Gen: gen, Number: number, Data: some((kind*7 + gen&63 + number) % 107)})
			}
		}
	}
	for n := range 107 {
		l = append(l, box.Box{Kind: 9, Gen: 8, Number: 7, Data: some(n)}, box.Box{Kind: 9, Gen: 8, Number: 7, Data: make([]byte, n)})
	}
	return append(l, box.Box{Kind: 1}, box.Box{Kind: 1, Data: []byte{}})
}

// seal is a box's sector, or the end of the test.
func seal(t *testing.T, b box.Box) api.Sector {
	t.Helper()
	s, err := box.Seal(b)
	if err != nil {
		t.Fatalf("Seal(%v): %v", b, err)
	}
	return s
}

// summed is the sector with the check sum that its other bytes have.
func summed(s api.Sector) api.Sector {
	sum := crc.Sum(s[4:])
	for i := range 4 {
		s[i] = byte(sum % 256)
		sum /= 256
	}
	return s
}

// noBox tells of a sector that is taken for a box's.
func noBox(t *testing.T, what string, s api.Sector) {
	t.Helper()
	b, err := box.Open(s)
	want(t, "Open of "+what, err, api.ErrCorrupt)
	if !same(b, box.Box{}) {
		t.Errorf("Open of %s has %v beside its error", what, b)
	}
	for _, kind := range []int{0, 1, 9, int(s[4])} {
		for _, gen := range []int{0, 8, -1, math.MinInt, 1<<62 + 1} {
			for _, number := range []int{0, 7, -1, 1 << 31} {
				if data, ok := box.Is(s, kind, gen, number); ok || len(data) != 0 {
					t.Errorf("Is of %s, %d, %d, %d: % x, %v", what, kind, gen, number, data, ok)
				}
			}
		}
	}
}

// P4.1: Seal

func TestSealForm(t *testing.T) {
	got := seal(t, box.Box{Kind: 0x21, Gen: 0x0102030405060708, Number: 0x11121314, Data: []byte{5, 6, 7}})
	asked := api.Sector{4: 0x21,
		5: 8, 6: 7, 7: 6, 8: 5, 9: 4, 10: 3, 11: 2, 12: 1,
		13: 0x14, 14: 0x13, 15: 0x12, 16: 0x11,
		21: 3, 22: 5, 23: 6, 24: 7}
	if got != summed(asked) {
		t.Errorf("the sector is\n% x, not\n% x", got, summed(asked))
	}
	// The sum written out, so that a mistake that Seal and this test might share is seen.
	got = seal(t, box.Box{Kind: 1})
	if sum := plainSum(got[4:]); got[0] != byte(sum) || got[1] != byte(sum>>8) || got[2] != byte(sum>>16) || got[3] != byte(sum>>24) {
		t.Errorf("the sum % x isn't %08x, the lowest byte first", got[:4], sum)
	}
	if got[4] != 1 || !bytes.Equal(got[5:], make([]byte, 123)) {
		t.Errorf("the rest is % x", got[4:])
	}
}

// plainSum is layer 1's check sum, bit by bit.
func plainSum(b []byte) uint32 {
	r := uint32(0xffffffff)
	for _, c := range b {
		r ^= uint32(c)
		for range 8 {
			low := r & 1
			r >>= 1
			if low == 1 {
				r ^= 0x82f63b78
			}
		}
	}
	return ^r
}

func TestSealFullData(t *testing.T) {
	data := some(106)
	s := seal(t, box.Box{Kind: 255, Gen: 1 << 62, Number: 1<<31 - 1, Data: data})
	if s[4] != 255 || s[12] != 64 || s[16] != 127 || s[21] != 106 || !bytes.Equal(s[22:], data) || s != summed(s) {
		t.Errorf("the sector is % x", s)
	}
}

func TestSealRange(t *testing.T) {
	long := make([]byte, 107)
	for _, data := range [][]byte{nil, {1}, some(106), long} {
		for _, n := range []int{0, -1, 256, 257, 1 << 16, 1<<32 + 1, math.MinInt, math.MaxInt} {
			refused(t, box.Box{Kind: n, Gen: 1, Number: 1, Data: data}, api.ErrRange)
		}
		for _, n := range []int{-1, 1<<62 + 1, math.MinInt, math.MaxInt, -1 << 62} {
			refused(t, box.Box{Kind: 1, Gen: n, Number: 1, Data: data}, api.ErrRange)
		}
		for _, n := range []int{-1, 1 << 31, 1<<31 + 1, 1 << 32, 1<<32 + 1, math.MinInt, math.MaxInt} {
			refused(t, box.Box{Kind: 1, Gen: 1, Number: n, Data: data}, api.ErrRange)
		}
	}
}

func TestSealForms(t *testing.T) {
	for _, n := range []int{107, 108, 255, 256, 257, 300, 362, 1 << 16} {
		refused(t, box.Box{Kind: 1, Data: some(n)}, api.ErrForm)
		refused(t, box.Box{Kind: 255, Gen: 1 << 62, Number: 1<<31 - 1, Data: make([]byte, n)}, api.ErrForm)
	}
}

// refused tells of a box that is sealed, or refused otherwise.
func refused(t *testing.T, b box.Box, asked error) {
	t.Helper()
	s, err := box.Seal(b)
	want(t, "Seal", err, asked)
	if s != (api.Sector{}) {
		t.Errorf("Seal of %d, %d, %d has a sector beside its error", b.Kind, b.Gen, b.Number)
	}
}

// P4.1: Open

func TestOpenForm(t *testing.T) {
	b, err := box.Open(summed(api.Sector{4: 0x21,
		5: 8, 6: 7, 7: 6, 8: 5, 9: 4, 10: 3, 11: 2, 12: 1,
		13: 0x14, 14: 0x13, 15: 0x12, 16: 0x11,
		21: 3, 22: 5, 23: 6, 24: 7}))
	must(t, err)
	if !same(b, box.Box{Kind: 0x21, Gen: 0x0102030405060708, Number: 0x11121314, Data: []byte{5, 6, 7}}) {
		t.Errorf("the box is %v", b)
	}
}

func TestOpenCorrupt(t *testing.T) {
	noBox(t, "noughts", api.Sector{})
	noBox(t, "noughts with their sum", summed(api.Sector{}))
	right := api.Sector{4: 9, 5: 8, 13: 7, 21: 4, 22: 1, 23: 2, 24: 3, 25: 4}
	noBox(t, "a box without a sum", right)
	if _, err := box.Open(summed(right)); err != nil {
		t.Fatal(err)
	}
	for what, change := range map[string]func(s *api.Sector){
		"kind 0":                      func(s *api.Sector) { s[4] = 0 },
		"generation 2^62 + 8":         func(s *api.Sector) { s[12] = 64 },
		"generation 2^62 + 1":         func(s *api.Sector) { s[5], s[12] = 1, 64 },
		"a generation below 0":        func(s *api.Sector) { s[12] = 128 },
		"generation -1":               func(s *api.Sector) { copy(s[5:13], bytes.Repeat([]byte{255}, 8)) },
		"number 2^31":                 func(s *api.Sector) { s[13], s[16] = 0, 128 },
		"number 2^32":                 func(s *api.Sector) { s[13], s[17] = 0, 1 },
		"a number below 0":            func(s *api.Sector) { s[20] = 128 },
		"number -1":                   func(s *api.Sector) { copy(s[13:21], bytes.Repeat([]byte{255}, 8)) },
		"one byte behind the data":    func(s *api.Sector) { s[26] = 1 },
		"the last byte":               func(s *api.Sector) { s[127] = 1 },
		"data but no count":           func(s *api.Sector) { s[21] = 0 },
		"a count of one byte too few": func(s *api.Sector) { s[21] = 3 },
		"107 bytes":                   func(s *api.Sector) { s[21] = 107 },
		"128 bytes":                   func(s *api.Sector) { s[21] = 128 },
		"255 bytes":                   func(s *api.Sector) { s[21] = 255 },
	} {
		s := right
		change(&s)
		noBox(t, what, summed(s))
		noBox(t, what+" and no sum", s)
	}
	s := summed(right)
	slices.Reverse(s[:4])
	noBox(t, "the sum's highest byte first", s)
}

func TestOpenTakesNoughtsForData(t *testing.T) {
	for n := range 107 {
		b, err := box.Open(summed(api.Sector{4: 9, 21: byte(n)}))
		must(t, err)
		if !same(b, box.Box{Kind: 9, Data: make([]byte, n)}) {
			t.Errorf("%d noughts are opened as %v", n, b)
		}
	}
}

// P4.1: Is

func TestIs(t *testing.T) {
	for _, b := range boxes() {
		s := seal(t, b)
		data, ok := box.Is(s, b.Kind, b.Gen, b.Number)
		if !ok || !bytes.Equal(data, b.Data) {
			t.Fatalf("Is of %v: % x, %v", b, data, ok)
		}
		for _, by := range []int{1, -1, 256, 1 << 31, 1 << 32, 1 << 62, math.MinInt} {
			for i, other := range [][3]int{
				{b.Kind + by, b.Gen, b.Number},
				{b.Kind, b.Gen + by, b.Number},
				{b.Kind, b.Gen, b.Number + by},
			} {
				if data, ok := box.Is(s, other[0], other[1], other[2]); ok || len(data) != 0 {
					t.Fatalf("Is of %v with %d more at %d: % x, %v", b, by, i, data, ok)
				}
			}
		}
	}
}

// P4.1: Parts

func TestParts(t *testing.T) {
	for _, n := range []int{0, 1, 2, 105, 106, 107, 211, 212, 213, 318, 1000, 106 * 100, 1 << 16} {
		data := some(n)
		parts := box.Parts(data)
		if len(parts) != (n+105)/106 {
			t.Fatalf("%d bytes have %d parts", n, len(parts))
		}
		for i, part := range parts {
			if len(part) != 106 && i < len(parts)-1 || len(part) == 0 {
				t.Errorf("part %d of %d bytes has %d", i, n, len(part))
			}
		}
		if !bytes.Equal(slices.Concat(parts...), data) {
			t.Errorf("the parts of %d bytes aren't the data", n)
		}
	}
	if len(box.Parts(nil)) != 0 || len(box.Parts([]byte{})) != 0 || len(box.Parts(some(9)[4:4])) != 0 {
		t.Error("no data have parts")
	}
}

func TestPartsAreSealed(t *testing.T) {
	var got []byte
	for i, part := range box.Parts(some(1000)) {
		data, ok := box.Is(seal(t, box.Box{Kind: 3, Gen: 4, Number: i, Data: part}), 3, 4, i)
		if !ok {
			t.Fatal(i)
		}
		got = append(got, data...)
	}
	if !bytes.Equal(got, some(1000)) {
		t.Error("the data of the parts' sectors aren't the data")
	}
}

// P4.2

func TestSealedIsOpened(t *testing.T) {
	for _, b := range boxes() {
		s := seal(t, b)
		got, err := box.Open(s)
		must(t, err)
		if !same(got, b) {
			t.Errorf("%v is opened as %v", b, got)
		}
		if seal(t, got) != s {
			t.Errorf("%v is sealed to another sector", got)
		}
	}
}

func TestOneByteChanged(t *testing.T) {
	for _, b := range []box.Box{{Kind: 1}, {Kind: 9, Gen: 8, Number: 7, Data: some(50)}, {Kind: 255, Gen: 1 << 62, Number: 1<<31 - 1, Data: some(106)}} {
		s := seal(t, b)
		for i := range s {
			for by := 1; by < 256; by++ {
				s[i] ^= byte(by)
				if _, err := box.Open(s); err == nil {
					t.Fatalf("%v with byte %d changed by %d is a box's", b, i, by)
				}
				if _, ok := box.Is(s, b.Kind, b.Gen, b.Number); ok {
					t.Fatalf("%v with byte %d changed by %d is the box", b, i, by)
				}
				s[i] ^= byte(by)
			}
		}
	}
}

// P4.3

// spoil changes all bytes of a row, and what room it has behind them.
func spoil(b []byte) {
	b = b[:cap(b)]
	for i := range b {
		b[i] ^= 255
	}
}

func TestSealKeepsNothing(t *testing.T) {
	whole := some(106)
	data := whole[20:50] // it has room behind it, which isn't data
	s := seal(t, box.Box{Kind: 1, Gen: 2, Number: 3, Data: data})
	if !bytes.Equal(whole, some(106)) {
		t.Error("Seal changed the data")
	}
	if !bytes.Equal(s[52:], make([]byte, 76)) {
		t.Error("the room behind the data is sealed")
	}
	spoil(data)
	if got, ok := box.Is(s, 1, 2, 3); !ok || !bytes.Equal(got, some(50)[20:]) {
		t.Errorf("the sector changed with the data: % x", got)
	}
}

func TestAnswersAreNew(t *testing.T) {
	s := seal(t, box.Box{Kind: 1, Gen: 2, Number: 3, Data: some(50)})
	for range 2 {
		b, err := box.Open(s)
		must(t, err)
		data, ok := box.Is(s, 1, 2, 3)
		if !ok || !bytes.Equal(b.Data, some(50)) || !bytes.Equal(data, some(50)) {
			t.Fatalf("% x, % x", b.Data, data)
		}
		spoil(b.Data)
		if !bytes.Equal(data, some(50)) {
			t.Fatal("Open and Is share memory")
		}
		spoil(data)
	}
}

func TestPartsAreNew(t *testing.T) {
	whole := some(400)
	data := whole[:300]
	parts := box.Parts(data)
	for i := range parts {
		spoil(parts[i])
		rest := slices.Concat(parts[i+1:]...)
		if !bytes.Equal(rest, some(300)[min((i+1)*106, 300):]) {
			t.Errorf("part %d shares memory with one behind it", i)
		}
	}
	for i := range parts {
		for j := range parts[i] {
			if parts[i][j] != some(300)[i*106+j]^255 {
				t.Fatalf("part %d was changed twice", i)
			}
		}
	}
	if !bytes.Equal(whole, some(400)) {
		t.Error("Parts shares memory with the data")
	}
	parts = box.Parts(data)
	spoil(data)
	if !bytes.Equal(slices.Concat(parts...), some(300)) {
		t.Error("the parts changed with the data")
	}
}
