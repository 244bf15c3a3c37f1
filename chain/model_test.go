package chain_test

import (
	"errors"
	"fmt"
	"testing"

	"lamina/api"
	"lamina/chain"
	"lamina/disk"
	"lamina/head"
	"lamina/pool"
	"lamina/snap"
)

// dice is numbers that hang on its seed alone.
type dice uint64

func (r *dice) below(n int) int {
	*r = *r*6364136223846793005 + 1442695040888963407
	return int(uint64(*r)>>33) % n
}

// one is one of some values.
func one[T any](r *dice, list ...T) T { return list[r.below(len(list))] }

// model is headers and data objects; what a byte is is told of each one by itself, as the chapter tells it.
type model struct {
	heads   map[string]head.Head
	spoilt  map[string]bool // headers that can't be read
	objects map[[2]int]snap.Object
	bad     map[[2]int]bool // data objects that can't be read
}

// view is a view's size and link.
func (m *model) view(name string, num int) (size int, l head.Link, ok bool) {
	h, ok := m.heads[name]
	if num == 0 || !ok {
		return h.Size, h.Link, ok
	}
	for _, s := range h.Snaps {
		if s.Num == num {
			return s.Size, s.Link, true
		}
	}
	return 0, head.Link{}, false
}

// byte is byte n of a view that has it, and whether it isn't broken.
func (m *model) byte(name string, num, n, deep int) (byte, bool) {
	h := m.heads[name]
	place := [2]int{h.ID, n / h.Object}
	if deep > 8 || m.bad[place] {
		return 0, false
	}
	if b, there := snap.At(m.objects[place], num); there {
		return append(b, make([]byte, 256)...)[n%h.Object], true
	}
	_, l, _ := m.view(name, num)
	return m.above(l, n, deep)
}

// above is byte n of what a view with a link shows of its parent.
func (m *model) above(l head.Link, n, deep int) (byte, bool) {
	if l.Parent == "" || n >= l.Overlap {
		return 0, true
	}
	size, _, ok := m.view(l.Parent, l.ParentSnap)
	if !ok || n >= size {
		return 0, ok
	}
	return m.byte(l.Parent, l.ParentSnap, n, deep+1)
}

// loads is the error of what there is of an image and a view of it.
func (m *model) loads(name string, num int) error {
	if !head.Named(name) {
		return api.ErrRange
	}
	if m.spoilt[name] {
		return api.ErrCorrupt
	}
	if _, _, ok := m.view(name, num); !ok {
		return api.ErrNone
	}
	return nil
}

// read is Read.
func (m *model) read(name string, num, at, n int) ([]byte, error) {
	if err := m.loads(name, num); err != nil {
		return nil, err
	}
	size, _, _ := m.view(name, num)
	if at < 0 || n < 0 || at+n > size {
		return nil, api.ErrRange
	}
	return row(n, func(i int) (byte, bool) { return m.byte(name, num, at+i, 0) })
}

// base is Base.
func (m *model) base(l head.Link, at, n int) ([]byte, error) {
	if at < 0 || n < 0 {
		return nil, api.ErrRange
	}
	if l.Parent == "" {
		return nil, nil
	}
	return row(min(n, l.Overlap-at), func(i int) (byte, bool) { return m.above(l, at+i, 0) })
}

// own is Own.
func (m *model) own(name string, num, index int) (bool, error) {
	if err := m.loads(name, num); err != nil {
		return false, err
	}
	h := m.heads[name]
	if size, _, _ := m.view(name, num); index < 0 || index*h.Object >= size {
		return false, api.ErrRange
	}
	place := [2]int{h.ID, index}
	if m.bad[place] {
		return false, api.ErrCorrupt
	}
	_, there := snap.At(m.objects[place], num)
	return there, nil
}

// row is n bytes, if none of them is broken.
func row(n int, of func(i int) (byte, bool)) ([]byte, error) {
	var b []byte
	for i := range max(0, n) {
		c, ok := of(i)
		if !ok {
			return nil, api.ErrCorrupt
		}
		b = append(b, c)
	}
	return b, nil
}

// names are images' names; of some there may be no image.
func names() []string { return []string{"a", "b", "c", "d", "e", "f", "g"} }

// link is any link of a view of so many bytes, mostly to an image that there is.
func (r *dice) link(size int) head.Link {
	if r.below(4) == 0 {
		return head.Link{}
	}
	return link(one(r, names()...), one(r, 1, 1, 1, 2, 2, 3), one(r, size, size, size, r.below(size+1), 0))
}

// head is any head of image number id.
func (r *dice) head(id int) head.Head {
	sizes := func() int { return one(r, 40, 64, 100, 100, r.below(150), 0) }
	h := plain(id, sizes(), one(r, 16, 16, 32, 64, 128, 256))
	h.Link, h.Seq = r.link(h.Size), 3
	for num := 1; num <= 3; num++ {
		if r.below(6) == 0 {
			continue
		}
		size := sizes()
		h.Snaps = append(h.Snaps, head.Snap{Num: num, Name: fmt.Sprint("s", num), Size: size, Link: r.link(size)})
	}
	return h
}

// object is any object.
func (r *dice) object() snap.Object {
	content := func() []byte {
		b := make([]byte, one(r, 0, 1, 5, 16, r.below(40), r.below(257)))
		for i := range b {
			b[i] = byte('a' + r.below(26))
		}
		return b
	}
	o := snap.Object{There: r.below(3) > 0, Seq: one(r, 0, 1, 2, 3, 3)}
	if o.There {
		o.Data = content()
	}
	for num := 1; num <= o.Seq; num++ {
		if r.below(2) == 0 {
			o.Clones = append(o.Clones, snap.Clone{Snaps: []int{num}, Data: content()})
		}
	}
	return o
}

// fill makes any images and data objects in a pool and in a model of it.
func (r *dice) fill(t *testing.T, p *pool.Pool) *model {
	t.Helper()
	m := &model{map[string]head.Head{}, map[string]bool{}, map[[2]int]snap.Object{}, map[[2]int]bool{}}
	for id, name := range names() {
		switch r.below(12) {
		case 0:
		case 1:
			lay(t, p, "h."+name, "spoilt")
			m.spoilt[name] = true
		default:
			m.heads[name] = r.head(one(r, id, id, id, id, id, 3)) // two may have one number
			create(t, p, name, m.heads[name])
		}
		for index := range 9 {
			place := [2]int{id, index}
			switch r.below(40) {
			case 0:
				lay(t, p, fmt.Sprintf("d.%d.%d", id, index), "spoilt")
				m.bad[place] = true
			case 1, 2, 3, 4, 5, 6, 7, 8, 9, 10:
				m.objects[place] = r.object()
				put(t, p, id, index, m.objects[place])
			}
		}
	}
	return m
}

// P16.1, P16.2, P16.3: any questions of any images, which are each other's parents.
func TestAnyQuestions(t *testing.T) {
	errs := map[error]int{}
	for seed := range 60 {
		r := dice(seed)
		p, d := roomy(t)
		m := r.fill(t, p)
		before, done := stored(p), d.Steps()
		for range 400 {
			ask(t, &r, p, m, errs)
		}
		if t.Failed() {
			t.Fatalf("row %d", seed)
		}
		unchanged(t, p, d, before, done)
	}
	for _, err := range []error{nil, api.ErrRange, api.ErrNone, api.ErrCorrupt} {
		if errs[err] < 500 {
			t.Errorf("%d questions are answered %v: too few", errs[err], err)
		}
	}
}

func unchanged(t *testing.T, p *pool.Pool, d *disk.Disk, before string, done int) {
	t.Helper()
	if stored(p) != before || d.Steps() != done {
		t.Fatal("what is asked changes something")
	}
}

// ask asks the pool and the model the same.
func ask(t *testing.T, r *dice, p *pool.Pool, m *model, errs map[error]int) {
	t.Helper()
	name, num := one(r, names()...), one(r, 0, 0, 1, 1, 2, 3, 4, -1)
	if r.below(50) == 0 {
		name = one(r, noNames()...)
	}
	at, n := one(r, 0, r.below(100), r.below(100), -1), one(r, 0, 1, 1, r.below(40), r.below(100), r.below(100), -1)
	var got, asked []byte
	var err, bad error
	what := ""
	switch r.below(4) {
	case 0, 1:
		what = fmt.Sprintf("Read of %q@%d, %d from %d on", name, num, n, at)
		got, err = chain.Read(p, name, num, at, n)
		asked, bad = m.read(name, num, at, n)
	case 2:
		l := r.link(100)
		what = fmt.Sprintf("Base of %v, %d from %d on", l, n, at)
		got, err = chain.Base(p, l, at, n)
		asked, bad = m.base(l, at, n)
	case 3:
		index := r.below(11) - 1
		what = fmt.Sprintf("Own of %q@%d, %d", name, num, index)
		ok, e := chain.Own(p, name, num, index)
		is, b := m.own(name, num, index)
		got, err, asked, bad = fmt.Append(nil, ok), e, fmt.Append(nil, is), b
	}
	errs[bad]++
	if !errors.Is(err, bad) || string(got) != string(asked) {
		t.Errorf("%s: %q, %v; not %q, %v", what, dots(got), err, dots(asked), bad)
	}
}
