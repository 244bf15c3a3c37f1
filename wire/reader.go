package wire

import (
	"bytes"

	"lamina/api"
)

// Reader reads values.
type Reader struct {
	left []byte // none, if it is bad
	bad  bool
}

// NewReader is a reader of bytes.
func NewReader(b []byte) *Reader {
	return &Reader{left: bytes.Clone(b)}
}

// Byte reads a byte.
func (r *Reader) Byte() byte {
	var b [1]byte
	copy(b[:], r.take(len(b)))
	return b[0]
}

// Num reads a number.
func (r *Reader) Num() int {
	var b [size]byte
	copy(b[:], r.take(len(b)))
	return unpacked(b)
}

// Flag reads a flag.
func (r *Reader) Flag() bool {
	b := r.Byte()
	if b > 1 {
		r.spoil()
	}
	return b == 1
}

// Bytes reads bytes.
func (r *Reader) Bytes() []byte {
	return bytes.Clone(r.take(r.Num()))
}

// Text reads a text.
func (r *Reader) Text() string {
	return string(r.take(r.Num()))
}

// Nums reads numbers.
func (r *Reader) Nums() []int {
	count := r.Num()
	// The count is held against what is left by a division: a product of it might wrap around.
	if count < 0 || count > r.Left()/size {
		r.spoil()
		return nil
	}
	l := make([]int, count)
	for i := range l {
		l[i] = r.Num()
	}
	return l
}

// Left is how many bytes it hasn't read.
func (r *Reader) Left() int {
	if r == nil {
		return 0
	}
	return len(r.left)
}

// End tells whether all was read.
func (r *Reader) End() error {
	if r == nil || r.bad || len(r.left) > 0 {
		return api.ErrForm
	}
	return nil
}

// take reads the next n bytes; without so many the reader is bad, and there are none.
func (r *Reader) take(n int) []byte {
	if n < 0 || n > r.Left() {
		r.spoil()
		return nil
	}
	if n == 0 {
		return nil
	}
	b := r.left[:n]
	r.left = r.left[n:]
	return b
}

// spoil makes the reader bad; a nil one is so already.
func (r *Reader) spoil() {
	if r != nil {
		*r = Reader{bad: true}
	}
}
