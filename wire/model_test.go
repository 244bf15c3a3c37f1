package wire_test

import (
	"bytes"
	"math"
	"slices"
	"testing"

	"lamina/wire"
)

// row is numbers that hang on its seed alone.
type row uint64

func (r *row) below(n int) int {
	*r = *r*6364136223846793005 + 1442695040888963407
	return int(uint64(*r)>>33) % n
}

func (r *row) bytes(n int) []byte {
	b := make([]byte, n)
	for i := range b {
		b[i] = byte(r.below(256))
	}
	return b
}

// number is mostly a small one, and at times any.
func (r *row) number() int {
	switch r.below(4) {
	case 0:
		return numbers()[r.below(len(numbers()))]
	case 1:
		return r.below(1<<30)<<33 ^ r.below(1<<30)
	}
	return r.below(20) - 2
}

func (r *row) numbers(n int) []int {
	l := make([]int, n)
	for i := range l {
		l[i] = r.number()
	}
	return l
}

// value is one value: its kind, and what it is.
type value struct {
	kind int
	n    int // a byte, a flag or a number
	row  []byte
	l    []int
}

const (
	aByte = iota
	aNum
	aFlag
	someBytes
	aText
	someNums
	kinds
)

func (r *row) value() value {
	v := value{kind: r.below(kinds)}
	switch v.kind {
	case aByte:
		v.n = r.below(256)
	case aNum:
		v.n = r.number()
	case aFlag:
		v.n = r.below(2)
	case someBytes, aText:
		v.row = r.bytes(r.below(40))
	case someNums:
		v.l = r.numbers(r.below(7))
	}
	return v
}

// same tells whether two values of one kind are the same: none is as nil.
func same(a, b value) bool {
	return a.n == b.n && bytes.Equal(a.row, b.row) && slices.Equal(a.l, b.l)
}

func write(w *wire.Writer, v value) {
	switch v.kind {
	case aByte:
		w.Byte(byte(v.n))
	case aNum:
		w.Num(v.n)
	case aFlag:
		w.Flag(v.n == 1)
	case someBytes:
		w.Bytes(v.row)
	case aText:
		w.Text(string(v.row))
	case someNums:
		w.Nums(v.l)
	}
}

func read(r *wire.Reader, kind int) value {
	v := value{kind: kind}
	switch kind {
	case aByte:
		v.n = int(r.Byte())
	case aNum:
		v.n = r.Num()
	case aFlag:
		if r.Flag() {
			v.n = 1
		}
	case someBytes:
		v.row = r.Bytes()
	case aText:
		v.row = []byte(r.Text())
	case someNums:
		v.l = r.Nums()
	}
	return v
}

// put is a value's bytes as the chapter tells them.
func put(v value) []byte {
	switch v.kind {
	case aNum:
		return num(v.n)
	case someBytes, aText:
		return join(num(len(v.row)), v.row)
	case someNums:
		b := num(len(v.l))
		for _, n := range v.l {
			b = append(b, num(n)...)
		}
		return b
	}
	return []byte{byte(v.n)}
}

// model is a reader as the chapter tells it: all its bytes, and how many were read; a bad one has none.
type model struct {
	all []byte
	at  int
	bad bool
}

func (m *model) left() int {
	if m.bad {
		return 0
	}
	return len(m.all) - m.at
}

// number is the one that stands next, if there are so many bytes.
func (m *model) number() (int, bool) {
	if m.left() < 8 {
		return 0, false
	}
	u := uint64(0)
	for i := range 8 {
		u += uint64(m.all[m.at+i]) << (8 * i)
	}
	m.at += 8
	return int(u), true
}

// row is a count, and as many things of so many bytes each.
func (m *model) row(each uint64) ([]byte, bool) {
	n, ok := m.number()
	if !ok || n < 0 || uint64(n) > uint64(m.left())/each {
		return nil, false
	}
	b := m.all[m.at : m.at+n*int(each)]
	m.at += len(b)
	return b, true
}

// take is the next value of a kind, if it can be read.
func (m *model) take(kind int) (v value, ok bool) {
	v.kind = kind
	if m.left() == 0 {
		return v, false
	}
	switch kind {
	case aByte, aFlag:
		v.n, ok = int(m.all[m.at]), kind == aByte || m.all[m.at] < 2
		m.at++
	case aNum:
		v.n, ok = m.number()
	case someBytes, aText:
		v.row, ok = m.row(1)
	case someNums:
		var b []byte
		b, ok = m.row(8)
		inside := &model{all: b}
		for inside.left() > 0 {
			n, _ := inside.number()
			v.l = append(v.l, n)
		}
	}
	return v, ok
}

func (m *model) read(kind int) value {
	v, ok := m.take(kind)
	if !ok {
		m.bad = true
		return value{kind: kind}
	}
	return v
}

// compare reads these kinds of a reader, and of the model of it.
func compare(t *testing.T, b []byte, order []int) {
	t.Helper()
	r, m := wire.NewReader(b), &model{all: b}
	for i, kind := range order {
		got, asked := read(r, kind), m.read(kind)
		if !same(got, asked) || r.Left() != m.left() {
			t.Fatalf("of % x the kinds %v: number %d is %v, %d left; not %v, %d", b, order, i, got, r.Left(), asked, m.left())
		}
		end(t, "as the model", r, !m.bad && m.left() == 0)
	}
}

// P3.1 and P3.2: any values in any order stand as told, and are read back; cut anywhere, they are not.
func TestAnyValuesBack(t *testing.T) {
	for seed := range 300 {
		r := row(seed)
		w := &wire.Writer{}
		var values []value
		var asked []byte
		for range r.below(12) {
			v := r.value()
			write(w, v)
			values, asked = append(values, v), join(asked, put(v))
		}
		out := w.Out()
		if !bytes.Equal(out, asked) {
			t.Fatalf("with the row of %d: % x, not % x", seed, out, asked)
		}
		for n := range len(out) + 1 {
			s := wire.NewReader(out[:n])
			for i, v := range values {
				if got := read(s, v.kind); n == len(out) && !same(got, v) {
					t.Fatalf("with the row of %d value %d is read as %v, not %v", seed, i, got, v)
				}
			}
			end(t, "of values that are cut", s, n == len(out))
		}
	}
}

// P3.1: any calls in any order on any bytes, and on values of which a byte was changed.
func TestAnyReadsAsTheModel(t *testing.T) {
	for seed := range 4000 {
		r := row(seed)
		var b []byte
		for range r.below(8) {
			b = join(b, put(r.value()))
		}
		if r.below(2) == 0 {
			b = r.bytes(r.below(60))
		}
		if len(b) > 0 {
			b[r.below(len(b))] ^= byte(1 << r.below(8))
		}
		order := make([]int, 14)
		for i := range order {
			order[i] = r.below(kinds)
		}
		compare(t, b, order)
	}
}

// P3.1: each kind at each count, as the model.
func TestCountsAsTheModel(t *testing.T) {
	for count := -3; count < 40; count++ {
		for left := range 40 {
			for _, high := range []int{0, 1 << 61, 1 << 62, math.MinInt} {
				b := join(num(count^high), some(left))
				for kind := range kinds {
					compare(t, b, []int{kind, aByte, kind})
				}
			}
		}
	}
}
