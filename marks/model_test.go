package marks_test

import (
	"bytes"
	"math"
	"slices"
	"strconv"
	"testing"

	"lamina/api"
	"lamina/marks"
)

// dice is numbers that hang on its seed alone.
type dice uint64

func (r *dice) below(n int) int {
	*r = *r*6364136223846793005 + 1442695040888963407
	return int(uint64(*r)>>33) % n
}

// rows is all rows of so many letters at most.
func rows(n int, letters string) []string {
	list := []string{""}
	for from := 0; n > 0; n-- {
		last := list[from:]
		from = len(list)
		for _, s := range last {
			for _, c := range letters {
				list = append(list, s+string(c))
			}
		}
	}
	return list
}

// letter is a letter of a row, or the one that is beyond it.
func letter(s string, i int, beyond byte) byte {
	if i < 0 || i >= len(s) {
		return beyond
	}
	return s[i]
}

// bits is a row's bytes as the chapter tells them, each written out as a text of bits.
func bits(s string) []byte {
	b := []byte{byte(len(s) % 256), byte(len(s) / 256)}
	for len(s) > 0 {
		word := ""
		for i := range 4 {
			word = map[byte]string{'n': "00", 't': "01", 'g': "10", 'c': "11"}[letter(s, i, 'n')] + word
		}
		n, err := strconv.ParseUint(word, 2, 8)
		if err != nil {
			panic(err)
		}
		b = append(b, byte(n))
		s = s[min(4, len(s)):]
	}
	return b
}

// changed is what changed between two rows, by a table of the pairs that tell of no change.
func changed(m, old string) []int {
	var l []int
	for i := range max(len(m), len(old)) {
		switch string(letter(m, i, 'n')) + string(letter(old, i, 'n')) {
		case "nn", "ct", "cg", "cc", "c?", "?t", "?g", "?c", "??":
		default:
			l = append(l, i)
		}
	}
	return l
}

// P10.1: all short rows

func TestAllShortRows(t *testing.T) {
	for _, s := range rows(6, letters) {
		b, err := marks.Put(row(s))
		if err != nil || !bytes.Equal(b, bits(s)) {
			t.Fatalf("Put of %s: %v, %v; not %v", s, b, err, bits(s))
		}
		m, err := marks.Take(b)
		is(t, "Take of "+s, m, err, s)
		frozen := ""
		for _, c := range s {
			frozen += map[rune]string{'n': "n", 't': "c", 'g': "g", 'c': "c"}[c]
		}
		is(t, "Frozen of "+s, row(s).Frozen(), nil, frozen)
	}
}

func TestAllShortRowsTwoByTwo(t *testing.T) {
	list := rows(3, letters+"?")
	for _, m := range list {
		for _, old := range list {
			if got := row(m).Changed(row(old)); !slices.Equal(got, changed(m, old)) {
				t.Fatalf("%s since %s: %v, not %v", m, old, got, changed(m, old))
			}
		}
	}
}

func TestAllShortRowsOfFlags(t *testing.T) {
	list := rows(4, "x-")
	for _, there := range list {
		for _, clean := range list {
			asked := ""
			for i := range len(there) {
				asked += map[string]string{"x-": "t", "xx": "c", "--": "n", "-x": "n"}[there[i:i+1]+string(letter(clean, i, '-'))]
			}
			is(t, "Scan of "+there+", "+clean, marks.Scan(flags(there), flags(clean)), nil, asked)
		}
		for _, m := range rows(3, letters+"?") {
			asked := true
			for i := range len(there) {
				asked = asked && string(there[i])+string(letter(m, i, 'n')) != "xn"
			}
			if got := row(m).Covers(flags(there)); got != asked {
				t.Fatalf("%s covers %s: %v", m, there, got)
			}
		}
	}
}

// P10.1, P10.2: all short bytes are taken that are put, and no others

func TestAllShortBytes(t *testing.T) {
	put := map[string]string{}
	for _, s := range rows(5, letters) {
		put[string(bits(s))] = s
	}
	for n := range 3 {
		for word := range 1 << (8 * n) {
			for count := range 6 {
				for high := range 2 {
					in := []byte{byte(count), byte(high), byte(word), byte(word >> 8)}[:2+n]
					s, ok := put[string(in)]
					m, err := marks.Take(in)
					if ok && (err != nil || show(m) != s) || !ok && (err != api.ErrForm || m != nil) {
						t.Fatalf("Take of %v: %s, %v", in, show(m), err)
					}
					delete(put, string(in))
				}
			}
		}
	}
	if len(put) > 0 {
		t.Errorf("%d rows of bytes weren't tried", len(put))
	}
}

// long is a row of any marks, up to so many.
func (r *dice) long(n int) string {
	b := make([]byte, r.below(n+1))
	for i := range b {
		b[i] = letters[r.below(4)]
	}
	return string(b)
}

// P10.1, P10.2: long rows

func TestLongRows(t *testing.T) {
	r := dice(10)
	for range 2000 {
		s, old := r.long(256), r.long(256)
		b, err := marks.Put(row(s))
		if err != nil || !bytes.Equal(b, bits(s)) {
			t.Fatalf("Put of %s: %v, %v", s, b, err)
		}
		m, err := marks.Take(b)
		is(t, "Take", m, err, s)
		if got := m.Changed(row(old)); !slices.Equal(got, changed(s, old)) {
			t.Errorf("%s since %s: %v", s, old, got)
		}
		if n := r.below(257); n <= len(s) {
			m, err = m.Sized(n)
			is(t, "Sized", m, err, s[:n])
		} else {
			m, err = m.Sized(n)
			is(t, "Sized", m, err, s+times(n-len(s), "n"))
		}
		if len(s) > 0 {
			i, mark := r.below(len(s)), r.below(4)
			m, err = row(s).Set(i, byte(mark))
			is(t, "Set", m, err, s[:i]+letters[mark:mark+1]+s[i+1:])
		}
	}
}

// P10.1: what is no row of marks has answers too

func TestOddRows(t *testing.T) {
	odd := append(marks.Marks{4, 255, 0, 1, 2, 3}, make(marks.Marks, 400)...)
	odd[405] = 9
	if m, err := odd.Set(405, marks.Clean); err != nil || len(m) != 406 || m[405] != marks.Clean || m[0] != 4 || m[1] != 255 {
		t.Errorf("Set: %v, %v", m, err)
	}
	if m, err := odd.Sized(5); err != nil || !bytes.Equal(m, []byte{4, 255, 0, 1, 2}) {
		t.Errorf("Sized: %v, %v", m, err)
	}
	if m := odd.Frozen(); len(m) != 406 || !bytes.Equal(m[:6], []byte{4, 255, 0, 3, 2, 3}) || m[405] != 9 {
		t.Errorf("Frozen: %v", m)
	}
	if l := odd.Changed(nil); !slices.Equal(l, []int{0, 1, 3, 4, 5, 405}) {
		t.Errorf("Changed: %v", l)
	}
	if !odd.Covers(flags("xx-xxx")) || odd.Covers(flags("xxx")) || !odd.Covers(flags(times(405, "-")+"x")) || odd.Covers(flags(times(406, "-")+"x")) {
		t.Error("Covers")
	}
	for _, i := range []int{-1, 406, math.MaxInt, math.MinInt} {
		m, err := odd.Set(i, 0)
		refuses(t, "Set", m, err, api.ErrRange)
	}
}

// P10.2: what is handed in is neither changed nor kept, and answers are new memory

// roomy is a list with spare room, in which something stands.
func roomy[T any](list []T, spare T) []T {
	return append(slices.Clone(list), spare, spare, spare)[:len(list)]
}

// fill changes a list with all its spare room.
func fill[T any](list []T, x T) {
	for i := range list[:cap(list)] {
		list[:cap(list)][i] = x
	}
}

// own tells of a call that changes or keeps what it is handed: do is handed lists that are changed behind it.
func own[T, A comparable](t *testing.T, what string, in []T, spoiled T, do func([]T) []A, other A) {
	t.Helper()
	handed := roomy(in, spoiled)
	whole := slices.Clone(handed[:cap(handed)])
	got := do(handed)
	if !slices.Equal(handed[:cap(handed)], whole) {
		t.Errorf("%s changes what it is handed", what)
	}
	was := slices.Clone(got)
	fill(handed, spoiled)
	if !slices.Equal(got, was) {
		t.Errorf("%s keeps what it is handed", what)
	}
	copy(handed[:cap(handed)], whole)
	fill(got, other)
	if !slices.Equal(handed[:cap(handed)], whole) {
		t.Errorf("%s answers what it is handed", what)
	}
	if again := do(handed); !slices.Equal(again, was) {
		t.Errorf("%s answers %v, and then %v: something is kept", what, was, again)
	}
}

func TestOwnMemory(t *testing.T) {
	for _, s := range []string{"", "t", "ncgc", "ntgct", times(256, "g"), times(64, "ctgn")} {
		m := []byte(row(s))
		on := func(what string, do func(m marks.Marks) []byte) {
			own(t, what+" of "+s, m, 77, func(m []byte) []byte { return do(m) }, 99)
		}
		on("Put", func(m marks.Marks) []byte { return first(marks.Put(m)) })
		on("Frozen", func(m marks.Marks) []byte { return m.Frozen() })
		for i := range min(len(m), 5) {
			for mark := range byte(4) {
				on("Set", func(m marks.Marks) []byte { return first(m.Set(i, mark)) })
			}
		}
		for _, n := range []int{0, 1, 3, 4, 5, 6, 7, 255, 256} {
			on("Sized", func(m marks.Marks) []byte { return first(m.Sized(n)) })
		}
		own(t, "Changed of "+s, m, 77, func(m []byte) []int { return marks.Marks(m).Changed(row("ntgcntgc")) }, 99)
		own(t, "Changed since "+s, m, 77, func(m []byte) []int { return row("ntgcntgc").Changed(m) }, 99)
		on("Take", func(m marks.Marks) []byte { return first(marks.Take(bits(s))) })
		own(t, "Take of "+s, bits(s), 77, func(b []byte) []byte { return first(marks.Take(b)) }, 99)
	}
}

// first is the marks or bytes of a call that answers no error.
func first[T ~[]byte](b T, err error) []byte {
	if err != nil {
		panic(err)
	}
	return b
}

func TestOwnMemoryOfFlags(t *testing.T) {
	for _, s := range []string{"", "x", "-", "xx-x-", times(256, "x-")} {
		own(t, "Scan of "+s, flags(s), true, func(l []bool) []byte { return marks.Scan(l, flags("x-xx")) }, 99)
		own(t, "Scan with clean "+s, flags(s), true, func(l []bool) []byte { return marks.Scan(flags("-xxx"), l) }, 99)
		own(t, "Covers of "+s, flags(s), true, func(l []bool) []bool { return []bool{row("ttgc").Covers(l)} }, true)
	}
}

func TestOwnMemoryOfNew(t *testing.T) {
	m, err := marks.New(4)
	fill(m, marks.Clean)
	other, errs := marks.New(4)
	is(t, "New", other, errs, "nnnn")
	is(t, "New", m, err, "cccc")
}

// Marks that are handed to calls that refuse them stay as they are.
func TestRefusedMarksStay(t *testing.T) {
	m := row("ntgc")
	for _, do := range []func() (marks.Marks, error){
		func() (marks.Marks, error) { return m.Set(4, 1) },
		func() (marks.Marks, error) { return m.Set(0, 4) },
		func() (marks.Marks, error) { return m.Sized(-1) },
		func() (marks.Marks, error) { return m.Sized(257) },
	} {
		got, err := do()
		refuses(t, "a call", got, err, api.ErrRange)
		is(t, "the marks", m, nil, "ntgc")
	}
}
