package marks

import (
	"bytes"

	"lamina/api"
)

const (
	countSize = 2 // bytes that say how many marks there are
	perByte   = 4 // marks that stand in a byte
	markBits  = 2 // bits of a mark
	markMask  = 1<<markBits - 1
)

// Put is marks as bytes.
func Put(m Marks) ([]byte, error) {
	if !m.good() {
		return nil, api.ErrForm
	}
	b := make([]byte, textSize(len(m)))
	b[0], b[1] = byte(len(m)), byte(len(m)>>8)
	for i, mark := range m {
		at, shift := place(i)
		b[at] |= mark << shift
	}
	return b, nil
}

// Take is the marks of bytes.
func Take(b []byte) (Marks, error) {
	if len(b) < countSize {
		return nil, api.ErrForm
	}
	m, err := New(int(b[0]) | int(b[1])<<8)
	if err != nil || len(b) != textSize(len(m)) {
		return nil, api.ErrForm
	}
	for i := range m {
		at, shift := place(i)
		m[i] = b[at] >> shift & markMask
	}
	// The last byte may have bits of marks that are missing.
	text, err := Put(m)
	if err != nil || !bytes.Equal(text, b) {
		return nil, api.ErrForm
	}
	return m, nil
}

// textSize is how many bytes so many marks are.
func textSize(n int) int { return countSize + (n+perByte-1)/perByte }

// place is where a mark stands: in which byte, and above how many bits of it.
func place(i int) (at, shift int) { return countSize + i/perByte, i % perByte * markBits }
