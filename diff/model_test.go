package diff_test

import (
	"errors"
	"testing"

	"lamina/api"
	"lamina/diff"
)

// dice is numbers that hang on its seed alone.
type dice uint64

func (r *dice) below(n int) int {
	*r = *r*6364136223846793005 + 1442695040888963407
	return int(uint64(*r)>>33) % n
}

// one is one of some values.
func one[T any](r *dice, list ...T) T { return list[r.below(len(list))] }

// size is any size of an image.
func (r *dice) size() int {
	return one(r, 0, 1, 15, 16, 17, 40, 64, r.below(100), r.below(100), r.below(600), r.below(4097), 4096)
}

// object is any size of data objects.
func (r *dice) object() int { return one(r, 16, 16, 32, 64, 128, 256) }

// bytes is n bytes, of which many are noughts, and many the same.
func (r *dice) bytes(n int) []byte {
	b := make([]byte, n)
	for at := 0; at < n; {
		c, end := one(r, 0, 0, byte('a'+r.below(3))), min(n, at+1+r.below(50))
		for ; at < end; at++ {
			b[at] = c
		}
	}
	return b
}

// changed is other bytes, which are mostly the same.
func (r *dice) changed(old []byte) []byte {
	n := r.size()
	if r.below(2) == 0 {
		n = len(old)
	}
	b := make([]byte, n)
	copy(b, old)
	for range r.below(5) {
		if n > 0 {
			at := r.below(n)
			copy(b[at:], r.bytes(1+r.below(min(40, n-at))))
		}
	}
	return b
}

// diff is any diff, and mostly a good one.
func (r *dice) diff() diff.Diff {
	d := of(r.size(), r.size())
	for at := 0; at < d.To && len(d.Records) < 20; {
		at += one(r, 0, 0, r.below(30))
		n := 1 + r.below(30)
		if r.below(100) == 0 {
			n = one(r, 0, -1, 5000)
		}
		if at+n > d.To && r.below(20) > 0 {
			break
		}
		x := diff.Record{At: at, Len: n, Zero: r.below(3) == 0}
		if !x.Zero {
			x.Data = r.bytes(max(0, n-r.below(60)/59))
		}
		d.Records = append(d.Records, x)
		at += n - r.below(60)/59
	}
	return d
}

// good is Good: each byte of each record is one of the new bytes, none is told of twice, and they come in order.
func good(d diff.Diff) bool {
	if d.From < 0 || d.From > 4096 || d.To < 0 || d.To > 4096 {
		return false
	}
	next := 0
	for _, r := range d.Records {
		if r.Len < 1 || r.Zero && len(r.Data) > 0 || !r.Zero && len(r.Data) != r.Len {
			return false
		}
		for i := range r.Len {
			n := r.At + i
			if n < next || n >= d.To {
				return false
			}
			next = n + 1
		}
	}
	return true
}

// told is what a good diff tells of byte n of the new bytes, if it tells of it.
func told(d diff.Diff, n int) (byte, bool) {
	for _, r := range d.Records {
		if n < r.At || n >= r.At+r.Len {
			continue
		}
		if r.Zero {
			return 0, true
		}
		return r.Data[n-r.At], true
	}
	return 0, false
}

// byteOf is byte n of bytes, a nought behind them.
func byteOf(b []byte, n int) byte {
	if n < len(b) {
		return b[n]
	}
	return 0
}

// applied is Apply, byte by byte.
func applied(d diff.Diff, old []byte) ([]byte, error) {
	if !good(d) {
		return nil, api.ErrForm
	}
	if len(old) != d.From {
		return nil, api.ErrRange
	}
	var b []byte
	for n := range d.To {
		c, ok := told(d, n)
		if !ok {
			c = byteOf(old, n)
		}
		b = append(b, c)
	}
	return b, nil
}

// difference is the diff between bytes, of the objects that are looked at.
func difference(old, fresh []byte, object int, looked func(int) bool) diff.Diff {
	d := of(len(old), len(fresh))
	for start := 0; start < len(fresh); start += object {
		end, same, noughts := min(start+object, len(fresh)), true, true
		for n := start; n < end; n++ {
			same = same && fresh[n] == byteOf(old, n)
			noughts = noughts && fresh[n] == 0
		}
		switch {
		case same || !looked(start/object):
		case noughts:
			d.Records = append(d.Records, zero(start, end-start))
		default:
			d.Records = append(d.Records, at(start, string(fresh[start:end])))
		}
	}
	return d
}

// all looks at all objects.
func all(int) bool { return true }

// P17.1, P17.2: any bytes

func TestAnyBytes(t *testing.T) {
	kinds := map[string]int{}
	for seed := range 12000 {
		r := dice(seed)
		old := r.bytes(r.size())
		fresh, object := r.changed(old), r.object()
		d, err := diff.Between(old, fresh, object)
		if want(t, "Between", err, nil); tell(d) != tell(difference(old, fresh, object, all)) {
			t.Fatalf("row %d: between %q and %q, in %d: %s", seed, dots(old), dots(fresh), object, tell(d))
		}
		if !diff.Good(d) {
			t.Fatalf("row %d: between bytes there is no diff: %s", seed, tell(d))
		}
		b, err := diff.Apply(d, old)
		if want(t, "Apply", err, nil); string(b) != string(fresh) {
			t.Fatalf("row %d: the diff makes %q of %q, not %q", seed, dots(b), dots(old), dots(fresh))
		}
		passed(t, d)
		if len(d.Records) == 0 {
			kinds["none"]++
		}
		for _, x := range d.Records {
			kinds[map[bool]string{true: "noughts", false: "data"}[x.Zero]]++
		}
	}
	for _, kind := range []string{"none", "noughts", "data"} {
		if kinds[kind] < 500 {
			t.Errorf("%d of %s: too few", kinds[kind], kind)
		}
	}
}

// passed puts and takes a good diff.
func passed(t *testing.T, d diff.Diff) {
	t.Helper()
	b, err := diff.Put(d)
	if want(t, "Put", err, nil); string(b) != stream(d) {
		t.Fatalf("%s is put to %q", tell(d), b)
	}
	x, err := diff.Take(b)
	if want(t, "Take", err, nil); tell(x) != tell(d) {
		t.Fatalf("%s is put, and taken for %s", tell(d), tell(x))
	}
}

// P17.1, P17.2: any diffs

func TestAnyDiffs(t *testing.T) {
	errs := map[error]int{}
	for seed := range 12000 {
		r := dice(seed)
		d := r.diff()
		if diff.Good(d) != good(d) {
			t.Fatalf("row %d: Good of %s: %v", seed, tell(d), diff.Good(d))
		}
		if good(d) {
			passed(t, d)
		} else {
			_, err := diff.Put(d)
			want(t, "Put", err, api.ErrForm)
			if _, err := diff.Take([]byte(stream(d))); !dataOfNoughts(d) {
				want(t, "Take", err, api.ErrForm)
			}
		}
		old := r.bytes(one(&r, d.From, d.From, d.From, d.To, r.size()))
		b, err := diff.Apply(d, old)
		asked, bad := applied(d, old)
		errs[bad]++
		if !errors.Is(err, bad) || string(b) != string(asked) {
			t.Fatalf("row %d: %s makes %q, %v of %q; not %q, %v", seed, tell(d), dots(b), err, dots(old), dots(asked), bad)
		}
	}
	for _, err := range []error{nil, api.ErrForm, api.ErrRange} {
		if errs[err] < 500 {
			t.Errorf("%d answers are %v: too few", errs[err], err)
		}
	}
}

// Bytes that are put together of parts of streams, and of others, are refused, or just the stream of what they are taken for.
func TestAnyStreams(t *testing.T) {
	taken := 0
	for seed := range 20000 {
		r := dice(seed)
		s := num(one(&r, 13, 13, 13, 13, 13, 13, 12)) + "lamina diff 1"
		nums := func() string { return num(one(&r, 0, 1, 1, 2, 3, 5, 8, 4096, 4097, -1, 1<<40)) }
		s += num(one(&r, 0, 5, 4096, 4097)) + num(one(&r, 3, 8, 20, 4096, 4096))
		n := r.below(4)
		s += num(n + r.below(20)/19)
		for at := range n {
			if r.below(10) == 0 {
				s += nums() + nums()
			} else {
				s += num(3*at) + num(2)
			}
			s += one(&r, "\x01", "\x01", "\x00"+num(2)+"ab", "\x00"+num(2)+"..", "\x00"+num(2)+"ab", "\x02", "\x00"+nums()+"ab")
		}
		s += one(&r, "E", "E", "E", "E", "", "EE", "e")
		d, err := diff.Take([]byte(s))
		if err == nil && (!good(d) || stream(d) != s) {
			t.Fatalf("row %d: %q is taken for %s", seed, s, tell(d))
		}
		if err == nil {
			taken++
		} else if want(t, "Take", err, api.ErrForm); d.Records != nil {
			t.Fatalf("row %d: Take answers %s beside its error", seed, tell(d))
		}
	}
	if taken < 1000 {
		t.Errorf("%d streams are taken: too few", taken)
	}
}
