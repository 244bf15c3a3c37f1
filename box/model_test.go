package box_test

import (
	"bytes"
	"testing"

	"lamina/api"
	"lamina/box"
)

// row is numbers that hang on its seed alone.
type row uint64

func (r *row) below(n int) int {
	*r = *r*6364136223846793005 + 1442695040888963407
	return int(uint64(*r)>>33) % n
}

func (r *row) bytes(n int) []byte {
	b := make([]byte, n)
	for i := range b {
		b[i] = byte(r.below(256))
	}
	return b
}

// box is any box.
func (r *row) box() box.Box {
	return box.Box{
		Kind:   1 + r.below(255),
		Gen:    r.below(1<<31)<<31 | r.below(1<<31),
		Number: r.below(1 << 31),
		Data:   r.bytes(r.below(107)),
	}
}

// plain is a box's sector as the chapter tells it, row by row.
func plain(b box.Box) api.Sector {
	body := []byte{byte(b.Kind)}
	for _, n := range []int{b.Gen, b.Number} {
		for range 8 {
			body = append(body, byte(n%256))
			n /= 256
		}
	}
	body = append(body, byte(len(b.Data)))
	body = append(body, b.Data...)
	body = append(body, make([]byte, 124-len(body))...)
	sum := plainSum(body)
	all := append([]byte{byte(sum), byte(sum >> 8), byte(sum >> 16), byte(sum >> 24)}, body...)
	return api.Sector(all)
}

// isPlain tells whether a sector is a box's, byte by byte.
func isPlain(s api.Sector) bool {
	sum := plainSum(s[4:])
	if !bytes.Equal(s[:4], []byte{byte(sum), byte(sum >> 8), byte(sum >> 16), byte(sum >> 24)}) {
		return false
	}
	gen, number := uint64(0), uint64(0)
	for i := range 8 {
		gen = gen*256 + uint64(s[12-i])
		number = number*256 + uint64(s[20-i])
	}
	if s[4] == 0 || gen > 1<<62 || number >= 1<<31 || s[21] > 106 {
		return false
	}
	for _, c := range s[22+s[21]:] {
		if c != 0 {
			return false
		}
	}
	return true
}

// P4.1, P4.2: any boxes are as the plain sectors

func TestAnyBoxes(t *testing.T) {
	r := row(4)
	for range 5000 {
		b := r.box()
		s := seal(t, b)
		if s != plain(b) {
			t.Fatalf("%v is sealed to % x", b, s)
		}
		got, err := box.Open(s)
		must(t, err)
		if !same(got, b) {
			t.Fatalf("%v is opened as %v", b, got)
		}
	}
}

// P4.1, P4.2: any sectors are boxes' or not, as told byte by byte

func TestAnySectors(t *testing.T) {
	r := row(44)
	boxes := 0
	for range 20000 {
		s := seal(t, r.box())
		for range r.below(3) {
			s[4+r.below(24)] = byte(r.below(256))
		}
		if r.below(8) > 0 {
			s = summed(s)
		}
		b, err := box.Open(s)
		if (err == nil) != isPlain(s) {
			t.Fatalf("% x is opened as %v, %v", s, b, err)
		}
		if err != nil {
			continue
		}
		boxes++
		if seal(t, b) != s {
			t.Fatalf("% x is sealed to another sector", s)
		}
	}
	if boxes < 5000 || boxes > 15000 {
		t.Fatalf("%d of the sectors are boxes': the changes are too few, or too many", boxes)
	}
}
