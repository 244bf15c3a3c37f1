package diff_test

import (
	"errors"
	"fmt"
	"testing"

	"lamina/api"
	"lamina/chain"
	"lamina/data"
	"lamina/diff"
	"lamina/head"
	"lamina/image"
	"lamina/marks"
	"lamina/pool"
	"lamina/snap"
)

// P17.1: any images, with any marks

// names are images' names; of some there may be no image.
func names() []string { return []string{"a", "b", "c", "d", "e"} }

// version is any version.
func (r *dice) version(size, object int) head.Snap {
	s := head.Snap{Size: size, MapOn: r.below(15) > 0, Link: one(r, head.Link{}, head.Link{}, link("a", 1, size), link(one(r, names()...), 2, r.below(size+1)))}
	if !s.MapOn {
		return s
	}
	s.MapGood = r.below(15) > 0
	for range head.Objects(size, object) {
		s.Map = append(s.Map, byte(one(r, marks.None, marks.None, marks.There, marks.Going, marks.Clean, marks.Clean, marks.Clean)))
	}
	return s
}

// head is any head of image number id.
func (r *dice) head(id int) head.Head {
	h := head.Head{ID: id, Object: r.object(), Owner: -1, Seq: 6}
	size := 20 + r.below(100)
	next := func(num int) head.Snap {
		if r.below(3) == 0 {
			size = one(r, 0, 64, r.below(150))
		}
		s := r.version(size, h.Object)
		if n := len(h.Snaps); n > 0 && h.Snaps[n-1].Size == size && r.below(6) > 0 {
			s.Link = h.Snaps[n-1].Link
		}
		s.Num, s.Name = num, fmt.Sprint("s", num)
		return s
	}
	for num := 1; num <= h.Seq; num++ {
		if r.below(3) > 0 {
			h.Snaps = append(h.Snaps, next(num))
		}
	}
	now := next(0)
	h.Size, h.MapOn, h.MapGood, h.Map, h.Link = now.Size, now.MapOn, now.MapGood, now.Map, now.Link
	return h
}

// content is any data object.
func (r *dice) content() snap.Object {
	o := snap.Object{There: r.below(4) > 0, Seq: r.below(7)}
	if o.There {
		o.Data = r.bytes(one(r, 5, 16, r.below(100)))
	}
	for num := 1; num <= o.Seq; num++ {
		if r.below(2) == 0 {
			o.Clones = append(o.Clones, snap.Clone{Snaps: []int{num}, Data: r.bytes(one(r, 0, 16, r.below(40)))})
		}
	}
	return o
}

// fill makes any images in a pool, of which some can't be read whole.
func (r *dice) fill(t *testing.T, p *pool.Pool) {
	t.Helper()
	for id, name := range names() {
		switch r.below(30) {
		case 0:
		case 1:
			lay(t, p, "h."+name, "spoilt")
		default:
			must(t, image.Create(p, -1, name, r.head(id)))
		}
		for index := range 9 {
			switch r.below(40) {
			case 0:
				lay(t, p, data.Name(id, index), "spoilt")
			case 1, 2, 3, 4, 5, 6, 7, 8, 9, 10, 11, 12, 13, 14, 15, 16, 17, 18, 19, 20:
				put(t, p, id, index, r.content())
			}
		}
	}
}

// spanOf is the views from one number to another one; none, if there are no such views.
func spanOf(h head.Head, from, to int) ([]head.Snap, error) {
	all := append(h.Copy().Snaps, head.Snap{Num: 0, Size: h.Size, MapOn: h.MapOn, MapGood: h.MapGood, Map: h.Map, Link: h.Link})
	first, last := -1, -1
	for i, s := range all {
		if s.Num == from && s.Num > 0 {
			first = i
		}
		if s.Num == to {
			last = i
		}
	}
	if last < 0 || first < 0 && from != -1 {
		return nil, api.ErrNone
	}
	if first >= last {
		return nil, api.ErrRange
	}
	if from == -1 {
		return append([]head.Snap{{Num: -1}}, all[:last+1]...), nil
	}
	return all[first : last+1], nil
}

// markOf is a mark; one beyond the row is None.
func markOf(m marks.Marks, i int) byte {
	if i < len(m) {
		return m[i]
	}
	return marks.None
}

// mayDiffer tells of one object whether it is looked at by marks.
func mayDiffer(views []head.Snap, object, index int) bool {
	least, most := 1<<20, 0
	for i, v := range views {
		least, most = min(least, v.Size), max(most, v.Size)
		if i == 0 {
			continue
		}
		now, then := markOf(v.Map, index), markOf(views[i-1].Map, index)
		if now == marks.There || now == marks.Going || (now == marks.None && then != marks.None) || (now != marks.None && then == marks.None) {
			return true
		}
	}
	for n := least; n < most; n++ {
		if n/object == index {
			return true
		}
	}
	return false
}

// byMarks is ByMarks, object by object.
func byMarks(h head.Head, from, to int) ([]int, bool) {
	views, err := spanOf(h, from, to)
	if err != nil || !head.Good(h) || from == -1 || views[0].Link != views[len(views)-1].Link {
		return nil, false
	}
	for _, v := range views {
		if !v.MapOn || !v.MapGood {
			return nil, false
		}
	}
	var list []int
	for index := range 256 {
		if mayDiffer(views, h.Object, index) {
			list = append(list, index)
		}
	}
	return list, true
}

// seenOf is a view's bytes, with noughts in place of what isn't looked at.
func seenOf(p *pool.Pool, name string, s head.Snap, object int, looked func(int) bool) ([]byte, error) {
	b := make([]byte, s.Size)
	for n := range b {
		if !looked(n / object) {
			continue
		}
		c, err := chain.Read(p, name, s.Num, n, 1)
		if err != nil {
			return nil, err
		}
		b[n] = c[0]
	}
	return b, nil
}

// exported is Export, byte by byte.
func exported(p *pool.Pool, name string, from, to int) (string, error) {
	h, err := image.Load(p, name)
	if err != nil {
		return "", err
	}
	views, err := spanOf(h, from, to)
	if err != nil {
		return "", err
	}
	list, some := byMarks(h, from, to)
	looked := func(index int) bool {
		for _, i := range list {
			if i == index {
				return true
			}
		}
		return !some
	}
	old, err := seenOf(p, name, views[0], h.Object, looked)
	if err != nil {
		return "", err
	}
	fresh, err := seenOf(p, name, views[len(views)-1], h.Object, looked)
	if err != nil {
		return "", err
	}
	return stream(difference(old, fresh, h.Object, looked)), nil
}

func TestAnyHeads(t *testing.T) {
	some, all := 0, 0
	for seed := range 4000 {
		r := dice(seed)
		h := r.head(1)
		if !head.Good(h) {
			t.Fatalf("row %d: the head isn't good", seed)
		}
		if r.below(20) == 0 {
			h.Owner = 99
		}
		was := h.Copy()
		for from := -1; from <= 7; from++ {
			for to := -1; to <= 7; to++ {
				list, ok := diff.ByMarks(h, from, to)
				asked, is := byMarks(h, from, to)
				if fmt.Sprint(list) != fmt.Sprint(asked) || ok != is {
					t.Fatalf("row %d: from %d to %d there is looked at %v, %v; not %v, %v: %v", seed, from, to, list, ok, asked, is, h)
				}
				if ok {
					some++
				} else {
					all++
				}
			}
		}
		if !head.Same(h, was) {
			t.Fatalf("row %d: the head is changed", seed)
		}
	}
	if some < 5000 || all < 5000 {
		t.Errorf("%d by marks, %d not: too few", some, all)
	}
}

func TestAnyImages(t *testing.T) {
	errs, byThem := map[error]int{}, 0
	for seed := range 40 {
		r := dice(seed)
		p, d := roomy(t)
		r.fill(t, p)
		before, done := stored(p), d.Steps()
		for _, name := range append(names(), "f") {
			for from := -1; from <= 7; from++ {
				for to := -1; to <= 7; to++ {
					b, err := diff.Export(p, name, from, to)
					asked, bad := exported(p, name, from, to)
					errs[bad]++
					if !errors.Is(err, bad) || string(b) != asked {
						t.Fatalf("row %d: %s from %d to %d: %q, %v; not %q, %v", seed, name, from, to, b, err, asked, bad)
					}
					if h, e := image.Load(p, name); e == nil && err == nil {
						if _, ok := diff.ByMarks(h, from, to); ok {
							byThem++
						}
					}
				}
			}
		}
		if stored(p) != before || d.Steps() != done {
			t.Fatal("Export changes something")
		}
	}
	for _, err := range []error{nil, api.ErrRange, api.ErrNone, api.ErrCorrupt} {
		if errs[err] < 500 {
			t.Errorf("%d answers are %v: too few", errs[err], err)
		}
	}
	if byThem < 200 {
		t.Errorf("%d answers are by marks: too few", byThem)
	}
}
