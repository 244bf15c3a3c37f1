package diff_test

import (
	"bytes"
	"errors"
	"fmt"
	"math"
	"slices"
	"strings"
	"testing"

	"lamina/api"
	"lamina/diff"
)

func must(t *testing.T, err error) {
	t.Helper()
	if err != nil {
		t.Fatal(err)
	}
}

func want(t *testing.T, what string, got, asked error) {
	t.Helper()
	if !errors.Is(got, asked) {
		t.Errorf("%s: %v, not %v", what, got, asked)
	}
}

// of is a diff.
func of(from, to int, records ...diff.Record) diff.Diff {
	return diff.Diff{From: from, To: to, Records: records}
}

// at is a record with data.
func at(at int, data string) diff.Record {
	return diff.Record{At: at, Len: len(data), Data: []byte(data)}
}

// zero is a record of noughts.
func zero(at, n int) diff.Record { return diff.Record{At: at, Len: n, Zero: true} }

// raw is bytes, with dots for noughts.
func raw(s string) []byte { return []byte(strings.ReplaceAll(s, ".", "\x00")) }

// dots is bytes with dots in place of noughts.
func dots(b []byte) string { return strings.ReplaceAll(string(b), "\x00", ".") }

// tell is a diff as a text: all that it says.
func tell(d diff.Diff) string {
	var b strings.Builder
	fmt.Fprintf(&b, "%d to %d:", d.From, d.To)
	for _, r := range d.Records {
		fmt.Fprintf(&b, " %d+%d %v %q", r.At, r.Len, r.Zero, r.Data)
	}
	return b.String()
}

// twin is the same diff, of its own memory.
func twin(d diff.Diff) diff.Diff {
	c := of(d.From, d.To)
	for _, r := range d.Records {
		r.Data = bytes.Clone(r.Data)
		c.Records = append(c.Records, r)
	}
	return c
}

// ones is so many records of a byte, side by side.
func ones(n int) []diff.Record {
	var list []diff.Record
	for i := range n {
		list = append(list, at(i, "x"))
	}
	return list
}

// goods are diffs, of all kinds of records and with all the edges.
func goods() []diff.Diff {
	long := strings.Repeat("long", 1024)
	return []diff.Diff{
		{}, of(4096, 4096), of(0, 4096), of(4096, 0), of(3, 7),
		of(0, 1, at(0, "a")), of(0, 1, zero(0, 1)), of(9, 5, at(4, "a")), of(9, 5, at(1, "bcde")), of(9, 5, zero(0, 5)),
		of(0, 4096, at(0, long)), of(0, 4096, zero(0, 4096)), of(7, 4096, at(4095, "z")), of(7, 4096, zero(4095, 1)),
		of(0, 6, at(0, "ab"), at(2, "cd"), zero(4, 2)), of(6, 6, zero(0, 1), at(1, "b"), zero(3, 1), at(5, "f")), of(6, 6, zero(0, 3), zero(3, 3)),
		of(0, 5, at(1, "\x00\x00")), of(0, 5, at(1, "E"), at(3, "\xff\x01")), // data may be noughts, too
		of(5, 2, diff.Record{Len: 2, Zero: true, Data: []byte{}}),
		of(0, 4096, ones(4096)...),
	}
}

// bads are no diffs.
func bads() []diff.Diff {
	list := []diff.Diff{
		of(-1, 0), of(0, -1), of(4097, 0), of(0, 4097), of(-1, 5, at(0, "a")), of(4097, 5, at(0, "a")), of(math.MinInt, 0), of(0, math.MinInt), of(math.MaxInt, 0), of(0, math.MaxInt), of(0, math.MaxInt, zero(0, math.MaxInt)), of(0, 4097, zero(0, 1)),
		of(5, 5, at(0, "")), of(5, 5, zero(0, 0)), of(5, 5, zero(0, -1)), of(5, 5, zero(3, -1)), of(5, 5, zero(5, 0)), of(5, 5, zero(0, math.MinInt)), of(5, 5, zero(-1, 2)), of(5, 5, at(-1, "ab")), of(5, 5, zero(math.MinInt, 1)), of(5, 5, zero(math.MinInt, math.MinInt)),
		of(5, 5, zero(0, 6)), of(5, 5, zero(1, 5)), of(5, 5, zero(4, 2)), of(5, 5, zero(5, 1)), of(5, 5, zero(6, 1)), of(5, 5, at(3, "abc")), of(0, 0, at(0, "a")), of(9, 5, zero(5, 1)), of(9, 5, at(4, "ab")),
		of(5, 5, zero(0, math.MaxInt)), of(5, 5, zero(1, math.MaxInt)), of(5, 5, zero(math.MaxInt, 1)), of(5, 5, zero(math.MaxInt, math.MaxInt)), of(5, 5, zero(math.MaxInt, math.MinInt)), of(5, 5, zero(5, math.MaxInt-4)),
		of(5, 5, at(0, "ab"), at(1, "c")), of(5, 5, at(0, "ab"), zero(0, 1)), of(5, 5, zero(0, 2), zero(0, 2)), of(5, 5, at(2, "c"), at(0, "a")), of(5, 5, at(2, "c"), at(1, "b")), of(5, 5, at(0, "a"), at(2, "cd"), at(3, "d")), of(5, 5, at(0, "a"), at(2, "c"), at(4, "ef")), of(5, 5, at(0, "a"), zero(0, 0)),
		of(0, 4096, append(ones(4096), at(4095, "x"))...), of(0, 4096, append(ones(4096), at(4096, "x"))...),
	}
	for _, r := range []diff.Record{
		{Len: 2}, {Len: 2, Data: []byte("a")}, {Len: 2, Data: []byte("abc")}, {Len: 1, Data: []byte{}}, {Data: []byte("a")}, {Len: -1, Data: []byte("a")}, {Len: 1, Zero: true, Data: []byte("a")}, {Len: 1, Zero: true, Data: []byte{0}}, {Len: 2, Zero: true, Data: []byte{0}}, {Zero: true, Data: []byte{0}}, {Len: 2, Data: make([]byte, 70000)},
	} {
		list = append(list, of(5, 5, r), of(5, 5, zero(0, 1), diff.Record{At: r.At + 1, Len: r.Len, Zero: r.Zero, Data: r.Data}))
	}
	return list
}

// P17.1: Good, and what isn't

func TestGood(t *testing.T) {
	for _, d := range goods() {
		if !diff.Good(d) {
			t.Errorf("%s isn't good", tell(d))
		}
	}
	for _, d := range bads() {
		if diff.Good(d) {
			t.Errorf("%s is good", tell(d))
		}
		b, err := diff.Put(d)
		if want(t, "Put of "+tell(d), err, api.ErrForm); b != nil {
			t.Errorf("Put of %s answers %q beside its error", tell(d), b)
		}
		// Whatever the bytes, that it is no diff comes first.
		for _, n := range []int{0, 5, 9, 4096, 4097} {
			c, err := diff.Apply(d, make([]byte, n))
			if want(t, "Apply of "+tell(d), err, api.ErrForm); c != nil {
				t.Errorf("Apply of %s answers %q beside its error", tell(d), c)
			}
		}
	}
}

// P17.1: Put and Take

// num is a number as eight bytes.
func num(n int) string {
	b := make([]byte, 8)
	for i := range b {
		b[i] = byte(n >> (8 * i))
	}
	return string(b)
}

// stream is a diff's stream, put together by hand.
func stream(d diff.Diff) string {
	s := num(13) + "lamina diff 1" + num(d.From) + num(d.To) + num(len(d.Records))
	for _, r := range d.Records {
		s += num(r.At) + num(r.Len)
		if r.Zero {
			s += "\x01"
		} else {
			s += "\x00" + num(len(r.Data)) + string(r.Data)
		}
	}
	return s + "E"
}

func TestStream(t *testing.T) {
	byHand := "\x0d\x00\x00\x00\x00\x00\x00\x00lamina diff 1" + "\x03\x00\x00\x00\x00\x00\x00\x00" + "\x02\x01\x00\x00\x00\x00\x00\x00" + "\x02\x00\x00\x00\x00\x00\x00\x00" +
		"\x01\x00\x00\x00\x00\x00\x00\x00" + "\x02\x00\x00\x00\x00\x00\x00\x00" + "\x00" + "\x02\x00\x00\x00\x00\x00\x00\x00" + "hi" +
		"\x00\x01\x00\x00\x00\x00\x00\x00" + "\x02\x00\x00\x00\x00\x00\x00\x00" + "\x01" + "E"
	d := of(3, 258, at(1, "hi"), zero(256, 2))
	if stream(d) != byHand {
		t.Fatal("the test's own stream is wrong")
	}
	for _, d := range goods() {
		b, err := diff.Put(d)
		if want(t, tell(d), err, nil); string(b) != stream(d) {
			t.Errorf("%s is put to %q, not %q", tell(d), b, stream(d))
		}
		x, err := diff.Take([]byte(stream(d)))
		if want(t, tell(d), err, nil); tell(x) != tell(d) {
			t.Errorf("%s is taken for %s", tell(d), tell(x))
		}
	}
}

// refused tells of bytes that are taken, or of something that is answered beside the error.
func refused(t *testing.T, what string, b string) {
	t.Helper()
	d, err := diff.Take([]byte(b))
	if want(t, what, err, api.ErrForm); d.From != 0 || d.To != 0 || d.Records != nil {
		t.Errorf("%s: Take answers %s beside its error", what, tell(d))
	}
}

// dataOfNoughts tells whether noughts have data with them: the stream doesn't show these.
func dataOfNoughts(d diff.Diff) bool {
	return slices.ContainsFunc(d.Records, func(r diff.Record) bool { return r.Zero && len(r.Data) > 0 })
}

func TestNoStreams(t *testing.T) {
	for _, d := range bads() {
		if !dataOfNoughts(d) {
			refused(t, tell(d), stream(d))
		}
	}
	body := stream(of(5, 5, zero(1, 2)))[21:]
	for _, title := range []string{"lamina diff 2", "lamina diff ", "lamina diff 11", "Lamina diff 1", "lamina diff 1\x00", "", "lamina bundle 1"} {
		refused(t, title, num(len(title))+title+body)
	}
	for _, n := range []int{0, 12, 14, -1, 13 + 8, 1 << 31, math.MaxInt, math.MinInt} {
		refused(t, fmt.Sprint("a title of ", n), num(n)+"lamina diff 1"+body)
	}
	if _, err := diff.Take([]byte(num(13) + "lamina diff 1" + body)); err != nil {
		t.Fatal("what is spoilt here isn't good without that")
	}
	start, one, two := num(13)+"lamina diff 1"+num(5)+num(5), num(0)+num(2)+"\x00"+num(2)+"ab", num(2)+num(3)+"\x01"
	for _, n := range []int{0, 1, 3, 4, -1, -2, 256 + 2, 4096, 4097, 1 << 31, 1 << 32, 1<<61 + 2, math.MaxInt, math.MinInt, math.MinInt + 2} {
		refused(t, fmt.Sprint("a count of ", n), start+num(n)+one+two+"E")
	}
	for _, tail := range []string{"", "e", "D", "F", "\x00", "EE", "E\x00", " E", one + "E"} {
		refused(t, "a tail of "+tail, start+num(2)+one+two+tail)
	}
	for _, flag := range []string{"\x02", "\xff", "", "\x01" + num(0), "\x01" + num(3) + "...", "\x00", "\x00" + num(3)} {
		refused(t, "a flag of "+flag, start+num(2)+one+num(2)+num(3)+flag+"E")
	}
	for _, n := range []int{0, 1, 3, 4, -1, 1 << 32, math.MaxInt, math.MinInt} {
		refused(t, fmt.Sprint("data of ", n), start+num(2)+num(0)+num(2)+"\x00"+num(n)+"ab"+two+"E")
	}
	if d, err := diff.Take([]byte(start + num(2) + one + two + "E")); err != nil || tell(d) != tell(of(5, 5, at(0, "ab"), zero(2, 3))) {
		t.Fatal("what is spoilt here isn't good without that")
	}
	refused(t, "no bytes", "")
	refused(t, "the end alone", "E")
	refused(t, "many noughts", strings.Repeat("\x00", 100000))
	// So many records as no diff has.
	refused(t, "one too many", start[:21]+num(0)+num(4096)+num(4097)+strings.Repeat(num(0)+num(1)+"\x01", 4097)+"E")
}

// With a byte changed, bytes are refused, or the stream of another diff.
func TestChangedStreams(t *testing.T) {
	for _, d := range []diff.Diff{{}, of(9, 5, zero(4, 1)), of(0, 12, at(0, "ab"), zero(2, 3), at(5, "\x00"), at(11, "l"))} {
		b := []byte(stream(d))
		for i := range b {
			refused(t, "cut", string(b[:i]))
			refused(t, "with one byte less", string(b[:i])+string(b[i+1:]))
			refused(t, "filled up", stream(d)+string(b[:i+1]))
			for _, x := range []byte{1, 2, 3, 4, 7, 8, 16, 31, 32, 64, 100, 128, 200, 254, 255} {
				b[i] += x
				y, err := diff.Take(b)
				switch {
				case err == nil && (!diff.Good(y) || stream(y) != string(b)):
					t.Fatalf("%q is taken for %s", b, tell(y))
				case err != nil:
					want(t, "another byte", err, api.ErrForm)
				}
				b[i] -= x
			}
		}
	}
}

// P17.1: Apply

func TestApply(t *testing.T) {
	for _, row := range []struct {
		d          diff.Diff
		old, fresh string
	}{
		{diff.Diff{}, "", ""}, {of(3, 3), "abc", "abc"}, {of(3, 2), "abc", "ab"}, {of(3, 0), "abc", ""}, {of(3, 5), "abc", "abc.."}, {of(0, 3), "", "..."},
		{of(3, 3, at(0, "xyz")), "abc", "xyz"}, {of(3, 3, at(1, "y")), "abc", "ayc"}, {of(3, 3, zero(1, 2)), "abc", "a.."}, {of(3, 3, at(1, "\x00")), "abc", "a.c"}, {of(3, 3, zero(0, 1), at(1, "y"), zero(2, 1)), "abc", ".y."},
		{of(3, 6, at(5, "f")), "abc", "abc..f"}, {of(3, 6, at(2, "CDE")), "abc", "abCDE."}, {of(3, 6, zero(2, 3)), "abc", "ab...."}, {of(6, 3, at(2, "C")), "abcdef", "abC"}, {of(0, 4, at(1, "b"), at(2, "c")), "", ".bc."},
		{of(3, 2, at(1, "E")), "a.c", "aE"}, {of(4, 4, at(0, "a")), "....", "a..."},
	} {
		b, err := diff.Apply(row.d, raw(row.old))
		if want(t, tell(row.d), err, nil); dots(b) != row.fresh {
			t.Errorf("%s makes %q of %q, not %q", tell(row.d), dots(b), row.old, row.fresh)
		}
	}
	for _, d := range goods() {
		for _, n := range []int{0, d.From - 1, d.From + 1, d.To, 4096, 4097, 70000} {
			if n < 0 || n == d.From {
				continue
			}
			b, err := diff.Apply(d, make([]byte, n))
			if want(t, tell(d), err, api.ErrRange); b != nil {
				t.Errorf("Apply answers %q beside its error", b)
			}
		}
	}
}

// P17.1: Between

func TestBetween(t *testing.T) {
	const letters = "abcdefghijklmnopABCDEFGHIJKLMNOP"
	for _, row := range []struct {
		old, fresh string
		object     int
		asked      diff.Diff
	}{
		// The chapter's example.
		{"", strings.Repeat(".", 19) + "\x01", 16, of(0, 20, at(16, "\x00\x00\x00\x01"))},
		{"", "", 16, diff.Diff{}}, {letters, letters, 16, of(32, 32)}, {"", "....", 16, of(0, 4)}, {"abc", "abc..", 16, of(3, 5)}, {"abc..", "abc", 16, of(5, 3)}, {"abc", "", 16, of(3, 0)}, {letters, letters[:20], 16, of(32, 20)}, {letters[:20], letters[:20] + strings.Repeat(".", 30), 16, of(20, 50)},
		// One byte that is another makes a record of the object, as far as the new bytes have it.
		{letters, "x" + letters[1:], 16, of(32, 32, at(0, "xbcdefghijklmnop"))}, {letters, letters[:31] + "x", 16, of(32, 32, at(16, "ABCDEFGHIJKLMNOx"))}, {letters, letters[:31] + "x", 32, of(32, 32, at(0, letters[:31]+"x"))}, {letters, letters[:31] + "x", 256, of(32, 32, at(0, letters[:31]+"x"))},
		{letters, letters[:17] + "x", 16, of(32, 18, at(16, "Ax"))}, {letters[:17], letters[:18], 16, of(17, 18, at(16, "AB"))}, {letters[:10], letters, 16, of(10, 32, at(0, letters[:16]), at(16, letters[16:]))}, {letters[:16], letters, 16, of(16, 32, at(16, letters[16:]))},
		// What is cut off isn't told of, though its object be another one.
		{letters[:17] + "x", letters[:17], 16, of(18, 17)}, {letters, letters[:16], 16, of(32, 16)}, {letters, letters[:15] + "x", 16, of(32, 16, at(0, letters[:15]+"x"))},
		// Records of noughts.
		{letters, strings.Repeat(".", 32), 16, of(32, 32, zero(0, 16), zero(16, 16))}, {letters, strings.Repeat(".", 19), 16, of(32, 19, zero(0, 16), zero(16, 3))}, {letters, strings.Repeat(".", 19), 64, of(32, 19, zero(0, 19))}, {"x", "....", 16, of(1, 4, zero(0, 4))}, {"...x", "...", 16, of(4, 3)}, {letters[:16] + "x", letters[:16] + strings.Repeat(".", 30), 16, of(17, 46, zero(16, 16))},
		// Objects that are the same lie between others.
		{letters + letters, "x" + letters[1:] + letters[:31] + ".", 16, of(64, 64, at(0, "x"+letters[1:16]), at(48, letters[16:31]+"\x00"))},
	} {
		d, err := diff.Between(raw(row.old), raw(row.fresh), row.object)
		if want(t, row.fresh, err, nil); tell(d) != tell(row.asked) {
			t.Errorf("between %q and %q, in %d: %s, not %s", row.old, row.fresh, row.object, tell(d), tell(row.asked))
		}
	}
}

func TestBetweenErrors(t *testing.T) {
	sizes := []int{16, 32, 64, 128, 256}
	for _, object := range []int{0, 1, 8, 15, 17, 31, 33, 48, 255, 257, 512, 4096, -1, -16, math.MaxInt, math.MinInt, 16 + 1<<32} {
		between(t, nil, nil, object, api.ErrRange)
		between(t, []byte("a"), []byte("b"), object, api.ErrRange)
		between(t, make([]byte, 4097), make([]byte, 4096), object, api.ErrRange)
	}
	for _, object := range sizes {
		for _, n := range []int{4097, 4098, 4096 + 256, 1 << 16, 1 << 20} {
			between(t, make([]byte, n), nil, object, api.ErrRange)
			between(t, nil, make([]byte, n), object, api.ErrRange)
			between(t, make([]byte, n), make([]byte, n), object, api.ErrRange)
		}
		between(t, nil, nil, object, nil)
		between(t, nil, bytes.Repeat([]byte("x"), 4096), object, nil)
		between(t, bytes.Repeat([]byte("x"), 4096), nil, object, nil)
		d, err := diff.Between(bytes.Repeat([]byte("x"), 4096), bytes.Repeat([]byte("y"), 4096), object)
		if want(t, "the longest", err, nil); len(d.Records) != 4096/object {
			t.Errorf("%d records in objects of %d", len(d.Records), object)
		}
	}
}

// between holds an error of Between against what it must be.
func between(t *testing.T, old, fresh []byte, object int, asked error) {
	t.Helper()
	d, err := diff.Between(old, fresh, object)
	want(t, fmt.Sprintf("between %d and %d bytes, in %d", len(old), len(fresh), object), err, asked)
	if err != nil && (d.From != 0 || d.To != 0 || d.Records != nil) {
		t.Errorf("Between answers %s beside its error", tell(d))
	}
}

// P17.3

// spare is bytes that have some room behind them, which nobody may write to.
func spare(s string) []byte { return append(make([]byte, 0, len(s)+300), s...) }

// room tells of something that was written behind bytes.
func room(t *testing.T, what string, b []byte) {
	t.Helper()
	for _, c := range b[len(b):cap(b)] {
		if c != 0 {
			t.Fatalf("%s: something is written behind the bytes", what)
		}
	}
}

// spoil writes to bytes, and behind them.
func spoil(b []byte) {
	b = b[:cap(b)]
	for i := range b {
		b[i] ^= 0xff
	}
}

// spoilt writes to all memory of a diff.
func spoilt(d diff.Diff) {
	for _, r := range d.Records {
		spoil(r.Data)
	}
	clear(d.Records[:cap(d.Records)])
}

func TestMemory(t *testing.T) {
	for _, d := range goods() {
		was, text := tell(d), stream(d)
		for i := range d.Records {
			d.Records[i].Data = spare(string(d.Records[i].Data))
		}
		d.Records = append(make([]diff.Record, 0, len(d.Records)+3), d.Records...)
		old := spare(strings.Repeat("o", d.From))
		b, err := diff.Put(d)
		must(t, err)
		fresh, err := diff.Apply(d, old)
		must(t, err)
		made := string(fresh)
		if !diff.Good(d) || tell(d) != was || string(old) != strings.Repeat("o", d.From) {
			t.Errorf("what is handed in is changed: %s", was)
		}
		if more := d.Records[:cap(d.Records)][len(d.Records)]; more.At != 0 || more.Len != 0 || more.Zero || more.Data != nil {
			t.Error("something is written behind the records")
		}
		for _, r := range d.Records {
			room(t, "data", r.Data)
		}
		room(t, "old", old)
		x, err := diff.Take(b)
		must(t, err)
		if string(b) != text {
			t.Errorf("Take changes what it is handed: %s", was)
		}
		// None of them hangs on another one.
		spoilt(d)
		spoil(old)
		if string(b) != text || string(fresh) != made || tell(x) != was {
			t.Errorf("an answer hangs on what was handed in: %s", was)
		}
		spoil(b)
		if tell(x) != was {
			t.Errorf("the diff hangs on the bytes that it was taken of: %s", was)
		}
		apart(t, x)
	}
}

// apart tells of records of a diff that share memory; they are spoilt then.
func apart(t *testing.T, d diff.Diff) {
	t.Helper()
	was := twin(d)
	for _, r := range d.Records {
		spoil(r.Data)
	}
	for i, r := range d.Records {
		for j, c := range r.Data {
			if c != ^was.Records[i].Data[j] {
				t.Fatalf("records share memory: %s", tell(was))
			}
		}
	}
}

func TestBetweenMemory(t *testing.T) {
	old, fresh := spare(strings.Repeat("a", 70)), spare(strings.Repeat("b", 40)+strings.Repeat("a", 10)+strings.Repeat("c", 40))
	was, young := string(old), string(fresh)
	d, err := diff.Between(old, fresh, 16)
	must(t, err)
	if string(old) != was || string(fresh) != young {
		t.Error("what is handed in is changed")
	}
	room(t, "old", old)
	room(t, "fresh", fresh)
	told := tell(d)
	spoil(old)
	spoil(fresh)
	if tell(d) != told {
		t.Error("the diff hangs on what was handed in")
	}
	apart(t, d)
	// Without a change what is made of bytes isn't these.
	same := spare("same")
	b, err := diff.Apply(of(4, 4), same)
	must(t, err)
	spoil(same)
	if string(b) != "same" {
		t.Error("what is made hangs on what was there")
	}
}
