package diff_test

import (
	"bytes"
	"fmt"
	"testing"

	"lamina/api"
	"lamina/chain"
	"lamina/data"
	"lamina/diff"
	"lamina/head"
	"lamina/image"
	"lamina/marks"
	"lamina/pool"
	"lamina/rules"
	"lamina/stripe"
)

// P17.2: an image that is used, with marks that are kept good

// used is an image in a pool that is used, and what its views must show, as flat rows of bytes.
type used struct {
	t     *testing.T
	p     *pool.Pool
	h     head.Head
	shows map[int][]byte
}

// use makes the image x, with marks: a clone of some bytes of another one, or none.
func use(t *testing.T, r *dice) *used {
	t.Helper()
	p, _ := roomy(t)
	mum := head.Head{ID: 1, Size: 90, Object: 32, Owner: -1, Seq: 1, Snaps: []head.Snap{{Num: 1, Name: "s", Size: 90}}}
	must(t, image.Create(p, -1, "mum", mum))
	base := r.bytes(90)
	for i := range 3 {
		must(t, data.Do(p, -1, 1, i, api.Context{}, data.Change{Kind: data.Write, Data: base[32*i : min(90, 32*i+32)]}))
	}
	size := r.below(150)
	h := head.Head{ID: 2, Size: size, Object: one(r, 16, 16, 32, 64), Owner: -1, MapOn: true, MapGood: true}
	h.Map = make(marks.Marks, head.Objects(size, h.Object))
	shown := make([]byte, size)
	if r.below(2) == 0 {
		h.Link = link("mum", 1, r.below(size+1))
		copy(shown[:h.Overlap], base)
	}
	must(t, image.Create(p, -1, "x", h))
	return &used{t, p, h, map[int][]byte{0: shown}}
}

// say is what the header says from now on.
func (u *used) say(h head.Head, err error) {
	u.t.Helper()
	must(u.t, err)
	must(u.t, image.Save(u.p, -1, "x", h))
	u.h = h
}

// change changes a data object.
func (u *used) change(index int, x data.Change) {
	u.t.Helper()
	must(u.t, data.Do(u.p, -1, u.h.ID, index, u.h.Context(), x))
}

// write writes bytes, each data object behind its mark, and copies it up first, if it isn't there.
func (u *used) write(at int, b []byte) {
	u.t.Helper()
	pieces, err := stripe.Pieces(u.h.Size, u.h.Object, at, len(b))
	must(u.t, err)
	for _, x := range pieces {
		u.say(rules.Mark(u.h, x.Index, marks.There))
		base, err := chain.Base(u.p, u.h.Link, x.Index*u.h.Object, u.h.Object)
		must(u.t, err)
		if len(base) > 0 {
			u.change(x.Index, data.Change{Kind: data.Over, Data: base})
		}
		u.change(x.Index, data.Change{Kind: data.Write, At: x.At, Data: b[x.From : x.From+x.Len]})
	}
	copy(u.shows[0][at:], b)
}

// drop drops a data object, for which the image has no parent.
func (u *used) drop(index int) {
	u.t.Helper()
	whole, err := stripe.Whole(u.h.Size, u.h.Object, index)
	must(u.t, err)
	u.say(rules.Mark(u.h, index, marks.Going))
	u.change(index, data.Change{Kind: data.Drop})
	u.say(rules.Mark(u.h, index, marks.None))
	clear(u.shows[0][index*u.h.Object:][:whole])
}

// resize makes it longer, or cuts it.
func (u *used) resize(to int) {
	u.t.Helper()
	if to >= u.h.Size {
		u.say(rules.Grow(u.h, to))
		u.shows[0] = append(bytes.Clone(u.shows[0]), make([]byte, to-len(u.shows[0]))...)
		return
	}
	edge, first, last, err := stripe.Cut(u.h.Size, u.h.Object, to)
	must(u.t, err)
	if edge.Len > 0 && u.h.Map[edge.Index] != marks.None {
		u.say(rules.Mark(u.h, edge.Index, marks.There))
		u.change(edge.Index, data.Change{Kind: data.Cut, N: edge.At})
	}
	for index := first; index < last; index++ {
		u.drop(index)
	}
	u.say(rules.Begin(u.h, rules.Resize, to))
	u.say(rules.Finish(u.h))
	u.shows[0] = bytes.Clone(u.shows[0][:to])
}

// step does any thing with it.
func (u *used) step(r *dice) {
	u.t.Helper()
	switch r.below(9) {
	case 0, 1:
		if len(u.h.Snaps) < 7 {
			u.say(rules.SnapMake(u.h, fmt.Sprint("s", u.h.Seq)))
			u.shows[u.h.Seq] = bytes.Clone(u.shows[0])
		}
	case 2:
		u.resize(one(r, u.h.Size, r.below(150), min(u.h.Size+20, 200), max(0, u.h.Size-20)))
	case 3:
		if u.h.Size > 0 && u.h.Parent == "" {
			u.drop(r.below(len(u.h.Map)))
		}
	default:
		if u.h.Size > 0 {
			at := r.below(u.h.Size)
			u.write(at, r.bytes(r.below(min(50, u.h.Size-at)+1)))
		}
	}
}

// pairs is each two views, the elder one and the younger one.
func (u *used) pairs(do func(from, to int)) {
	for num := range u.shows {
		if num != 0 {
			do(num, 0)
		}
		do(-1, num)
		for elder := range num {
			if elder > 0 {
				do(elder, num)
			}
		}
	}
}

func TestHistories(t *testing.T) {
	less := 0
	for seed := range 120 {
		r := dice(seed)
		u := use(t, &r)
		for range 25 {
			u.step(&r)
		}
		u.pairs(func(from, to int) {
			stream, err := diff.Export(u.p, "x", from, to)
			must(t, err)
			d, err := diff.Take(stream)
			must(t, err)
			old, fresh := u.shows[from], u.shows[to]
			b, err := diff.Apply(d, old)
			if want(t, "Apply", err, nil); string(b) != string(fresh) {
				t.Fatalf("row %d: from %d to %d: %s makes %q of %q, not %q", seed, from, to, tell(d), dots(b), dots(old), dots(fresh))
			}
			// Each data object that changed is told of, though not all are looked at.
			if tell(d) != tell(difference(old, fresh, u.h.Object, all)) {
				t.Fatalf("row %d: from %d to %d: %s", seed, from, to, tell(d))
			}
			list, ok := diff.ByMarks(u.h, from, to)
			if ok && len(list) < head.Objects(len(fresh), u.h.Object) {
				less++
			}
		})
	}
	if less < 200 {
		t.Errorf("in %d rows not all objects are looked at: too few", less)
	}
}
