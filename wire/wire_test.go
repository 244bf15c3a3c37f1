package wire_test

import (
	"bytes"
	"errors"
	"math"
	"slices"
	"strings"
	"testing"

	"lamina/api"
	"lamina/wire"
)

// num is a number's bytes as the chapter tells them: the rest by 256 is the lowest one.
func num(n int) []byte {
	u := uint64(n)
	var b []byte
	for range 8 {
		b = append(b, byte(u%256))
		u /= 256
	}
	return b
}

// join is rows of bytes, one behind the other.
func join(rows ...[]byte) []byte { return slices.Concat(rows...) }

// some is n bytes, of which none is 0 or 1 or as the one beside it.
func some(n int) []byte {
	b := make([]byte, n)
	for i := range b {
		b[i] = byte(2 + i%254)
	}
	return b
}

// numbers is numbers of all kinds, the edges among them.
func numbers() []int {
	l := []int{0, 1, 2, 127, 128, 255, 256, 257, 258, 65535, 65536, math.MaxInt32, math.MinInt32, math.MaxUint32, 1 << 32,
		0x0807060504030201, -0x0807060504030201, math.MaxInt, math.MaxInt - 1, math.MinInt, math.MinInt + 1}
	for i := range 64 {
		l = append(l, 1<<i, -1<<i, 1<<i-1, ^(1 << i))
	}
	return l
}

// written is all bytes of a writer with which something was done.
func written(do func(w *wire.Writer)) []byte {
	w := &wire.Writer{}
	do(w)
	return w.Out()
}

// form tells of a writer's bytes that aren't those that are asked for.
func form(t *testing.T, what string, do func(w *wire.Writer), asked []byte) {
	t.Helper()
	if got := written(do); !bytes.Equal(got, asked) {
		t.Errorf("%s is % x, not % x", what, got, asked)
	}
}

// end tells of a reader's end that isn't as asked: all is read, or it isn't.
func end(t *testing.T, what string, r *wire.Reader, whole bool) {
	t.Helper()
	err := r.End()
	if whole && err != nil {
		t.Errorf("%s: the end is %v", what, err)
	}
	if !whole && (err == nil || !errors.Is(err, api.ErrForm)) {
		t.Errorf("%s: the end is %v, not form", what, err)
	}
}

// calls is each call that reads a value, and tells whether it is zero.
func calls() map[string]func(r *wire.Reader) bool {
	return map[string]func(r *wire.Reader) bool{
		"Byte":  func(r *wire.Reader) bool { return r.Byte() == 0 },
		"Num":   func(r *wire.Reader) bool { return r.Num() == 0 },
		"Flag":  func(r *wire.Reader) bool { return !r.Flag() },
		"Bytes": func(r *wire.Reader) bool { return len(r.Bytes()) == 0 },
		"Text":  func(r *wire.Reader) bool { return r.Text() == "" },
		"Nums":  func(r *wire.Reader) bool { return len(r.Nums()) == 0 },
	}
}

// isBad tells of a reader that isn't bad, or isn't so for ever.
func isBad(t *testing.T, what string, r *wire.Reader) {
	t.Helper()
	for round := range 2 {
		for name, zero := range calls() {
			if r.Left() != 0 {
				t.Errorf("%s: %d bytes are left of a bad reader, round %d", what, r.Left(), round)
			}
			end(t, what, r, false)
			if !zero(r) {
				t.Errorf("%s: %s of a bad reader isn't zero, round %d", what, name, round)
			}
		}
	}
}

// spoils tells of a call that isn't zero at these bytes, or leaves a reader that isn't bad.
func spoils(t *testing.T, name string, b []byte) {
	t.Helper()
	r := wire.NewReader(b)
	if !calls()[name](r) {
		t.Errorf("%s of % x isn't zero", name, b)
	}
	isBad(t, name, r)
}

// P3.1: how values stand as bytes

func TestFormOfBytes(t *testing.T) {
	for c := range 256 {
		form(t, "Byte", func(w *wire.Writer) { w.Byte(byte(c)) }, []byte{byte(c)})
	}
}

func TestFormOfNumbers(t *testing.T) {
	for _, c := range []struct {
		n    int
		want []byte
	}{
		{0, []byte{0, 0, 0, 0, 0, 0, 0, 0}},
		{1, []byte{1, 0, 0, 0, 0, 0, 0, 0}},
		{258, []byte{2, 1, 0, 0, 0, 0, 0, 0}},
		{0x0807060504030201, []byte{1, 2, 3, 4, 5, 6, 7, 8}},
		{-1, []byte{255, 255, 255, 255, 255, 255, 255, 255}},
		{-2, []byte{254, 255, 255, 255, 255, 255, 255, 255}},
		{math.MaxInt, []byte{255, 255, 255, 255, 255, 255, 255, 127}},
		{math.MinInt, []byte{0, 0, 0, 0, 0, 0, 0, 128}},
	} {
		form(t, "Num", func(w *wire.Writer) { w.Num(c.n) }, c.want)
	}
	for _, n := range numbers() {
		form(t, "Num", func(w *wire.Writer) { w.Num(n) }, num(n))
	}
}

func TestFormOfFlags(t *testing.T) {
	form(t, "Flag(false)", func(w *wire.Writer) { w.Flag(false) }, []byte{0})
	form(t, "Flag(true)", func(w *wire.Writer) { w.Flag(true) }, []byte{1})
}

func TestFormOfRows(t *testing.T) {
	for _, n := range []int{0, 1, 2, 7, 8, 9, 127, 128, 255, 256, 257, 1000, 65536, 65537} {
		b := some(n)
		form(t, "Bytes", func(w *wire.Writer) { w.Bytes(b) }, join(num(n), b))
		form(t, "Text", func(w *wire.Writer) { w.Text(string(b)) }, join(num(n), b))
	}
	for _, s := range []string{"a", "é", "\x00\x00", "\xff\xfe", "日本\n", strings.Repeat("\x00", 300)} {
		form(t, "Text", func(w *wire.Writer) { w.Text(s) }, join(num(len(s)), []byte(s)))
	}
}

func TestFormOfManyNumbers(t *testing.T) {
	asked := num(len(numbers()))
	for _, n := range numbers() {
		asked = append(asked, num(n)...)
	}
	form(t, "Nums", func(w *wire.Writer) { w.Nums(numbers()) }, asked)
	form(t, "Nums", func(w *wire.Writer) { w.Nums([]int{-3}) }, join(num(1), num(-3)))
}

func TestFormOfNone(t *testing.T) {
	form(t, "Bytes(nil)", func(w *wire.Writer) { w.Bytes(nil) }, num(0))
	form(t, "Bytes of none", func(w *wire.Writer) { w.Bytes([]byte{}) }, num(0))
	form(t, "Text of none", func(w *wire.Writer) { w.Text("") }, num(0))
	form(t, "Nums(nil)", func(w *wire.Writer) { w.Nums(nil) }, num(0))
	form(t, "Nums of none", func(w *wire.Writer) { w.Nums([]int{}) }, num(0))
}

// P3.1: writers

func TestZeroWriter(t *testing.T) {
	var w wire.Writer
	if len(w.Out()) != 0 || len(w.Out()) != 0 {
		t.Error("the zero writer has bytes")
	}
	w.Byte(7)
	if !bytes.Equal(w.Out(), []byte{7}) {
		t.Error("the zero writer isn't written to")
	}
}

func TestWriterPutsBehind(t *testing.T) {
	w := &wire.Writer{}
	var asked []byte
	for k := range 40 {
		w.Byte(byte(k))
		w.Text("xy")
		w.Num(-k)
		w.Flag(k%2 == 1)
		w.Nums([]int{k, k + 1})
		w.Bytes(some(k))
		asked = join(asked, []byte{byte(k)}, num(2), []byte("xy"), num(-k), []byte{byte(k % 2)}, num(2), num(k), num(k+1), num(k), some(k))
		for range 2 {
			if !bytes.Equal(w.Out(), asked) {
				t.Fatalf("behind round %d the bytes are others", k)
			}
		}
	}
}

func TestWritersAreApart(t *testing.T) {
	v, w := &wire.Writer{}, &wire.Writer{}
	for k := range 20 {
		v.Byte(byte(k))
		w.Num(k)
	}
	if len(v.Out()) != 20 || len(w.Out()) != 160 {
		t.Errorf("%d and %d bytes", len(v.Out()), len(w.Out()))
	}
}

func TestNilWriter(t *testing.T) {
	var w *wire.Writer
	for range 2 {
		w.Byte(1)
		w.Num(2)
		w.Flag(true)
		w.Flag(false)
		w.Bytes([]byte{3})
		w.Bytes(nil)
		w.Text("4")
		w.Text("")
		w.Nums([]int{5})
		w.Nums(nil)
		if len(w.Out()) != 0 {
			t.Error("a nil writer has bytes")
		}
	}
}

// P3.1: readers

func TestReadEachByte(t *testing.T) {
	r := wire.NewReader(some(254))
	for i, c := range some(254) {
		if r.Left() != 254-i {
			t.Fatalf("%d bytes are left, not %d", r.Left(), 254-i)
		}
		end(t, "ahead of the last byte", r, false)
		if got := r.Byte(); got != c {
			t.Fatalf("byte %d is %d, not %d", i, got, c)
		}
	}
	end(t, "behind the last byte", r, true)
	if r.Left() != 0 || r.Byte() != 0 {
		t.Error("there are bytes behind the last one")
	}
	isBad(t, "behind the last byte", r)
}

func TestReadNumbers(t *testing.T) {
	for _, n := range numbers() {
		r := wire.NewReader(join(num(n), []byte{77}))
		if got := r.Num(); got != n || r.Left() != 1 {
			t.Errorf("%d is read as %d, %d left", n, got, r.Left())
		}
		if r.Byte() != 77 {
			t.Error("what stands behind a number isn't read")
		}
		end(t, "Num", r, true)
	}
}

func TestReadFlags(t *testing.T) {
	r := wire.NewReader([]byte{1, 0, 0, 1})
	if !r.Flag() || r.Flag() || r.Flag() || !r.Flag() {
		t.Error("flags are read as others")
	}
	end(t, "Flag", r, true)
	for c := 2; c < 256; c++ {
		spoils(t, "Flag", []byte{byte(c)})
		spoils(t, "Flag", []byte{byte(c), 1, 1, 1, 1, 1, 1, 1, 1, 1})
	}
}

func TestReadRows(t *testing.T) {
	for _, n := range []int{0, 1, 2, 7, 8, 9, 255, 256, 1000, 65536} {
		for _, behind := range []int{0, 1, 8, 100} {
			b := join(num(n), some(n), some(behind))
			r, s := wire.NewReader(b), wire.NewReader(b)
			if got := r.Bytes(); !bytes.Equal(got, some(n)) || r.Left() != behind {
				t.Errorf("%d bytes are read as %d, %d left", n, len(got), r.Left())
			}
			if got := s.Text(); got != string(some(n)) || s.Left() != behind {
				t.Errorf("a text of %d is read as one of %d, %d left", n, len(got), s.Left())
			}
			end(t, "Bytes", r, behind == 0)
			end(t, "Text", s, behind == 0)
		}
	}
}

func TestReadManyNumbers(t *testing.T) {
	b := num(len(numbers()))
	for _, n := range numbers() {
		b = append(b, num(n)...)
	}
	for behind := range 20 {
		r := wire.NewReader(join(b, some(behind)))
		if got := r.Nums(); !slices.Equal(got, numbers()) || r.Left() != behind {
			t.Errorf("%d numbers are read, %d left, not %d", len(got), r.Left(), behind)
		}
		end(t, "Nums", r, behind == 0)
	}
}

func TestTooFewBytes(t *testing.T) {
	spoils(t, "Byte", nil)
	spoils(t, "Flag", nil)
	for n := range 8 {
		for _, name := range []string{"Num", "Bytes", "Text", "Nums"} {
			spoils(t, name, make([]byte, n))
			spoils(t, name, some(n))
		}
	}
}

func TestCountBelowNought(t *testing.T) {
	for _, count := range []int{-1, -2, -8, -9, math.MinInt32, -1 << 32, -1<<61 + 1, -1 << 61, -1<<61 - 1, math.MinInt + 1, math.MinInt} {
		for _, name := range []string{"Bytes", "Text", "Nums"} {
			for _, left := range []int{0, 1, 8, 9, 64} {
				spoils(t, name, join(num(count), some(left)))
			}
		}
	}
}

// above is counts above n, among them such as wrap around to a small number if they are put to another or multiplied by eight.
func above(n int) []int {
	return []int{n + 1, n + 2, n + 7, n + 8, math.MaxInt32, 1<<32 + n, 1 << 60, 1<<60 + 1, 1<<61 - 1, 1 << 61, 1<<61 + 1, 1<<62 + n, math.MaxInt - 8, math.MaxInt - 7, math.MaxInt}
}

func TestCountAboveWhatIsLeft(t *testing.T) {
	for left := range 36 {
		for _, count := range above(left) {
			spoils(t, "Bytes", join(num(count), some(left)))
			spoils(t, "Text", join(num(count), some(left)))
		}
		for _, count := range above(left / 8) {
			spoils(t, "Nums", join(num(count), some(left)))
		}
		r := wire.NewReader(join(num(left/8), some(left)))
		if len(r.Nums()) != left/8 || r.Left() != left%8 {
			t.Errorf("as many numbers as %d bytes hold aren't read", left)
		}
		end(t, "Nums", r, left%8 == 0)
	}
}

func TestBadIsForEver(t *testing.T) {
	good := join([]byte{5}, num(6), []byte{1}, num(1), []byte{7}, num(1), []byte("8"), num(1), num(9))
	for name, b := range map[string][]byte{
		"a flag that is 2":                  join([]byte{2}, good),
		"a count of bytes below 0":          join(num(-1), good),
		"a count above all that there is":   join(num(1000), good),
		"a count above it only by a little": join(num(len(good)+1), good),
	} {
		for call, zero := range calls() {
			if call == "Byte" || call == "Num" || (call == "Flag") != (b[0] == 2) {
				continue
			}
			r := wire.NewReader(b)
			if !zero(r) {
				t.Errorf("%s: %s isn't zero", name, call)
			}
			isBad(t, name+" for "+call, r)
		}
	}
}

func TestGoodUntilItIsBad(t *testing.T) {
	r := wire.NewReader(join(num(3), []byte{4}, num(5)[:7]))
	if r.Num() != 3 || r.Byte() != 4 || r.Left() != 7 {
		t.Error("what can be read isn't")
	}
	if r.Num() != 0 {
		t.Error("a number of seven bytes isn't 0")
	}
	isBad(t, "behind a number of seven bytes", r)
}

func TestEndReadsNothing(t *testing.T) {
	r := wire.NewReader([]byte{1, 9})
	for range 3 {
		end(t, "of two bytes left", r, false)
	}
	if r.Left() != 2 || !r.Flag() {
		t.Error("End changed the reader")
	}
	end(t, "of one byte left", r, false)
	if r.Byte() != 9 {
		t.Error("End made the reader bad")
	}
	for range 3 {
		end(t, "of no byte left", r, true)
	}
}

func TestReaderOfNothing(t *testing.T) {
	for _, b := range [][]byte{nil, {}} {
		r := wire.NewReader(b)
		if r.Left() != 0 {
			t.Errorf("of nothing %d bytes are left", r.Left())
		}
		end(t, "of nothing", r, true)
		for name := range calls() {
			spoils(t, name, b)
		}
	}
}

func TestNilReader(t *testing.T) {
	var r *wire.Reader
	isBad(t, "a nil reader", r)
	r = wire.NewReader([]byte{1, 2})
	if r == nil || r.Left() != 2 {
		t.Error("a reader of two bytes is none")
	}
}

// P3.2

func TestBackInOrder(t *testing.T) {
	w := &wire.Writer{}
	for _, n := range numbers() {
		w.Num(n)
		w.Text("as told: \x00é\xff")
		w.Byte(byte(n))
		w.Flag(n < 0)
		w.Nums([]int{n, -n})
		w.Bytes(some(n & 31))
		w.Nums(nil)
		w.Text("")
		w.Bytes(nil)
	}
	r := wire.NewReader(w.Out())
	for _, n := range numbers() {
		if r.Num() != n || r.Text() != "as told: \x00é\xff" || r.Byte() != byte(n) || r.Flag() != (n < 0) ||
			!slices.Equal(r.Nums(), []int{n, -n}) || !bytes.Equal(r.Bytes(), some(n&31)) ||
			len(r.Nums()) != 0 || r.Text() != "" || len(r.Bytes()) != 0 {
			t.Fatalf("what was written with %d isn't read back", n)
		}
	}
	end(t, "behind all that was written", r, true)
}

func TestLongRowsBack(t *testing.T) {
	b, l := some(1<<20), make([]int, 1<<17)
	for i := range l {
		l[i] = i*i - 1<<20
	}
	r := wire.NewReader(written(func(w *wire.Writer) {
		w.Bytes(b)
		w.Nums(l)
		w.Text(string(b))
	}))
	if !bytes.Equal(r.Bytes(), b) || !slices.Equal(r.Nums(), l) || r.Text() != string(b) {
		t.Error("long rows aren't read back")
	}
	end(t, "behind long rows", r, true)
}

// P3.3

// roomy is a list with spare room behind it, and the whole room.
func roomy[T any](l []T, spare T) (short, room []T) {
	room = append(slices.Clone(l), spare, spare, spare)
	return room[:len(l)], room
}

func TestHandedInStays(t *testing.T) {
	b, room := roomy(some(20), 99)
	l, numbersRoom := roomy([]int{5, 6, 7}, 99)
	w := &wire.Writer{}
	for range 3 {
		w.Bytes(b)
		w.Nums(l)
		w.Byte(1)
		w.Bytes(b[:5])
		w.Nums(l[:1])
	}
	stream, streamRoom := roomy(w.Out(), 99)
	was := bytes.Clone(streamRoom)
	r := wire.NewReader(stream)
	for range 3 {
		got, nums := r.Bytes(), r.Nums()
		r.Byte()
		_, _ = append(got, 1, 2, 3), append(nums, 1, 2, 3)
		clear(got)
		clear(nums)
		clear(r.Bytes())
		clear(r.Nums())
	}
	end(t, "of what was written", r, true)
	r.Byte()
	if !bytes.Equal(room, append(some(20), 99, 99, 99)) || !slices.Equal(numbersRoom, []int{5, 6, 7, 99, 99, 99}) {
		t.Error("what was written was changed, or the room behind it")
	}
	if !bytes.Equal(streamRoom, was) {
		t.Error("what was read was changed, or the room behind it")
	}
}

func TestHandedInIsNotKept(t *testing.T) {
	w := &wire.Writer{}
	b, l := make([]byte, 10, 100), make([]int, 4, 100)
	copy(b, some(10))
	copy(l, []int{1, 2, 3, 4})
	w.Bytes(b)
	clear(b[:100])
	w.Nums(l)
	clear(l[:100])
	w.Byte(5)
	out := join(num(10), some(10), num(4), num(1), num(2), num(3), num(4), []byte{5})
	if !bytes.Equal(w.Out(), out) || !bytes.Equal(b[:100], make([]byte, 100)) {
		t.Error("a writer keeps what it was handed")
	}
	r := wire.NewReader(out)
	clear(out)
	if !bytes.Equal(r.Bytes(), some(10)) {
		t.Error("a reader keeps what it was handed")
	}
	for i := range out {
		out[i] = 255
	}
	if !slices.Equal(r.Nums(), []int{1, 2, 3, 4}) || r.Byte() != 5 {
		t.Error("a reader that was read of keeps what it was handed")
	}
	end(t, "of bytes that were changed", r, true)
}

func TestOutIsNew(t *testing.T) {
	w := &wire.Writer{}
	w.Bytes(some(30))
	asked := join(num(30), some(30))
	first, second := w.Out(), w.Out()
	clear(first[:cap(first)])
	if !bytes.Equal(second, asked) || !bytes.Equal(w.Out(), asked) {
		t.Error("an answer that is changed changes another one")
	}
	_ = append(second, 1, 2, 3)
	w.Byte(9)
	third := w.Out()
	if !bytes.Equal(second, asked) || !bytes.Equal(third, append(bytes.Clone(asked), 9)) {
		t.Error("what is written behind an answer isn't apart from it")
	}
	_ = append(w.Out(), 5)
	w.Byte(8)
	if !bytes.Equal(w.Out(), append(bytes.Clone(asked), 9, 8)) {
		t.Error("what is put behind an answer is in the writer")
	}
}

func TestReadersAnswersAreNew(t *testing.T) {
	b := join(num(3), some(3), num(2), num(11), num(12), num(3), some(3), num(2), num(11), num(12))
	r, s := wire.NewReader(b), wire.NewReader(b)
	first, nums := r.Bytes(), r.Nums()
	clear(first[:cap(first)])
	clear(nums[:cap(nums)])
	_ = append(first, bytes.Repeat([]byte{99}, 100)...)
	for name, rest := range map[string]*wire.Reader{"the same": r, "another": s} {
		for rest.Left() > 0 {
			if !bytes.Equal(rest.Bytes(), some(3)) || !slices.Equal(rest.Nums(), []int{11, 12}) {
				t.Fatalf("an answer that is changed changes what %s reader reads", name)
			}
		}
		end(t, name, rest, true)
	}
	if !bytes.Equal(b[8:11], some(3)) {
		t.Error("an answer that is changed changes what was handed in")
	}
}

func TestTextsStay(t *testing.T) {
	b := join(num(5), []byte("stays"), num(3), some(3))
	r := wire.NewReader(b)
	s := r.Text()
	clear(b)
	clear(r.Bytes())
	if s != "stays" {
		t.Errorf("a text is %q later", s)
	}
}
