package wire

import "bytes"

// Writer writes values.
type Writer struct {
	out []byte
}

// Byte writes a byte.
func (w *Writer) Byte(b byte) {
	w.put(b)
}

// Num writes a number.
func (w *Writer) Num(n int) {
	b := packed(n)
	w.put(b[:]...)
}

// Flag writes a flag.
func (w *Writer) Flag(f bool) {
	if f {
		w.put(1)
	} else {
		w.put(0)
	}
}

// Bytes writes bytes.
func (w *Writer) Bytes(b []byte) {
	counted(w, b)
}

// Text writes a text.
func (w *Writer) Text(s string) {
	counted(w, s)
}

// Nums writes numbers.
func (w *Writer) Nums(l []int) {
	w.Num(len(l))
	for _, n := range l {
		w.Num(n)
	}
}

// Out is all bytes.
func (w *Writer) Out() []byte {
	if w == nil {
		return nil
	}
	return bytes.Clone(w.out)
}

// counted writes how many bytes row has, and them.
func counted[T []byte | string](w *Writer, row T) {
	w.Num(len(row))
	w.put([]byte(row)...)
}

// put puts bytes behind what is there; every call writes by it, so a nil Writer is met here alone.
func (w *Writer) put(b ...byte) {
	if w != nil {
		w.out = append(w.out, b...)
	}
}
