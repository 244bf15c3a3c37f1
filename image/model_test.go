package image_test

import (
	"fmt"
	"maps"
	"slices"
	"testing"

	"lamina/api"
	"lamina/head"
	"lamina/image"
	"lamina/marks"
	"lamina/pool"
	"lamina/store"
)

// dice is numbers that hang on its seed alone.
type dice uint64

func (r *dice) below(n int) int {
	*r = *r*6364136223846793005 + 1442695040888963407
	return int(uint64(*r)>>33) % n
}

// one is one of some values.
func one[T any](r *dice, list ...T) T { return list[r.below(len(list))] }

// model is headers and the counter as the chapter tells them, in a store without a disk.
type model struct {
	heads map[string]head.Head
	next  int
	store *store.Store
}

// does does steps with an object of the store.
func (m *model) does(client int, name string, steps ...api.Step) error {
	if client != -1 {
		steps = append([]api.Step{{Kind: api.NeedAllowed, At: client}}, steps...)
	}
	_, err := m.store.Do(name, steps...)
	return err
}

// puts does steps ahead of which, if any, a header's bytes are written and cut.
func (m *model) puts(client int, name string, h head.Head, ahead ...api.Step) error {
	b, err := head.Put(h)
	if err != nil {
		return api.ErrForm
	}
	err = m.does(client, "h."+name, append(ahead, api.Step{Kind: api.Write, Data: b}, api.Step{Kind: api.Cut, At: len(b)})...)
	if err == nil {
		m.heads[name] = h.Copy()
	}
	return err
}

// asked is the error of a name that is none, or of an image without a header.
func (m *model) asked(name string) error {
	if !head.Named(name) {
		return api.ErrRange
	}
	if _, there := m.heads[name]; !there {
		return api.ErrNone
	}
	return nil
}

func (m *model) save(client int, name string, h head.Head) error {
	if err := m.asked(name); err != nil {
		return err
	}
	return m.puts(client, name, h)
}

func (m *model) create(client int, name string, h head.Head) error {
	if !head.Named(name) {
		return api.ErrRange
	}
	if !head.Good(h) {
		return api.ErrForm
	}
	if m.asked(name) == nil {
		return api.ErrExists
	}
	return m.puts(client, name, h, api.Step{Kind: api.Make})
}

func (m *model) drop(client int, name string) error {
	if err := m.asked(name); err != nil {
		return err
	}
	err := m.does(client, "h."+name, api.Step{Kind: api.Drop})
	if err == nil {
		delete(m.heads, name)
	}
	return err
}

func (m *model) number(client int) (int, error) {
	if err := m.does(client, "next", api.Step{Kind: api.Make}, api.Step{Kind: api.Write, Data: []byte(num(m.next + 1))}); err != nil {
		return 0, err
	}
	m.next++
	return m.next - 1, nil
}

// holds holds a pool against the model.
func (m *model) holds(t *testing.T, p *pool.Pool) {
	t.Helper()
	if stored(p) != string(m.store.Put()) {
		t.Fatal("the store is another one")
	}
	if l := image.List(p); !slices.Equal(l, slices.Sorted(maps.Keys(m.heads))) {
		t.Fatalf("%q", l)
	}
	for name, h := range m.heads {
		if loads(t, p, name, h); t.Failed() {
			t.FailNow()
		}
	}
}

// head is any head, most of which are good.
func (r *dice) head() head.Head {
	h := head.Head{ID: r.below(9), Size: one(r, 0, 16, 40, r.below(4097)), Object: one(r, 16, 32, 64, 128, 256, 256), Owner: r.below(9) - 1, Seq: 20}
	if r.below(10) == 0 {
		h.Owner = one(r, 8, -2)
	}
	for i := range r.below(17) {
		h.Snaps = append(h.Snaps, head.Snap{Num: i + 1, Name: fmt.Sprint("s", i), Protected: r.below(2) == 0})
	}
	if r.below(2) == 0 {
		h.MapOn, h.Map = true, make(marks.Marks, head.Objects(h.Size, h.Object))
	}
	return h
}

// P15.1: any calls, of some images in a pool that may be full, by clients of whom some are blocked.
func TestAnyCalls(t *testing.T) {
	errs := map[error]int{}
	for seed := range 100 {
		r := dice(seed)
		blocks := one(&r, 40, 100, 2000)
		p, _ := fresh(t, 3000, blocks)
		s, err := store.New(blocks)
		must(t, err)
		m := &model{map[string]head.Head{}, 0, s}
		for i := range 60 {
			if r.below(60) == 0 {
				client := r.below(8)
				must(t, p.Block(client))
				must(t, m.store.Block(client))
			}
			client, name, h := r.below(10)-1, one(&r, "a", "b", "disk-1", "next", "A", ""), r.head()
			what := fmt.Sprintf("row %d, call %d: client %d, image %q", seed, i, client, name)
			var got, asked error
			switch r.below(7) {
			case 0, 1:
				got, asked = image.Create(p, client, name, h), m.create(client, name, h)
			case 2:
				got, asked = image.Save(p, client, name, h), m.save(client, name, h)
			case 3, 4:
				got, asked = m.change(t, p, &r, client, name, h)
			case 5:
				got, asked = image.Delete(p, client, name), m.drop(client, name)
			case 6:
				n, is := 0, 0
				n, got = image.Number(p, client)
				if is, asked = m.number(client); n != is {
					t.Errorf("%s: number %d, not %d", what, n, is)
				}
			}
			errs[asked]++
			want(t, what, got, asked)
			m.holds(t, p)
		}
	}
	for _, err := range []error{api.ErrRange, api.ErrForm, api.ErrFull, api.ErrExists, api.ErrNone, api.ErrBlocked} {
		if errs[err] < 30 {
			t.Errorf("%d calls answer %v: too few", errs[err], err)
		}
	}
	if errs[nil] < 1000 {
		t.Errorf("%d calls are done: too few", errs[nil])
	}
}

// change does Change in a pool and in the model.
func (m *model) change(t *testing.T, p *pool.Pool, r *dice, client int, name string, h head.Head) (got, asked error) {
	t.Helper()
	var bad error
	if r.below(5) == 0 {
		bad = api.ErrLock
	}
	was, there := m.heads[name]
	then, got := image.Change(p, client, name, func(now head.Head) (head.Head, error) {
		if !there || !head.Same(now, was) {
			t.Errorf("what is to be changed: %v, not %v", now, was)
		}
		return h, bad
	})
	asked = m.asked(name)
	if asked == nil && bad != nil {
		asked = bad
	}
	if asked == nil {
		asked = m.save(client, name, h)
	}
	if asked != nil {
		h = head.Head{}
	}
	is(t, "the head then", then, nil, h, nil)
	return got, asked
}

// P15.3: what is handed in is neither changed nor kept, and answers are new memory

// spare is a list with spare room, in which something stands.
func spare[L ~[]T, T any](list L, other T) L {
	l := append(slices.Clone(list), other, other, other)
	return l[:len(list)]
}

// roomier is a full head whose lists have spare room.
func roomier() head.Head {
	h := full()
	h.Map = spare(h.Map, 9)
	h.Snaps = spare(h.Snaps, head.Snap{Name: "spare"})
	for i := range h.Snaps {
		h.Snaps[i].Map = spare(h.Snaps[i].Map, 9)
		h.Snaps[i].Children = spare(h.Snaps[i].Children, "spare")
	}
	return h
}

// whole is all that stands in a head and in its lists, spare room included.
func whole(h head.Head) string {
	s := fmt.Sprint(h, h.Map[:cap(h.Map)], h.Snaps[:cap(h.Snaps)])
	for _, x := range h.Snaps {
		s += fmt.Sprint(x.Map[:cap(x.Map)], x.Children[:cap(x.Children)])
	}
	return s
}

// spoil writes over all that a head's lists hold, spare room included.
func spoil(h head.Head) {
	for i := range h.Map[:cap(h.Map)] {
		h.Map[:cap(h.Map)][i] = 3
	}
	for i := range h.Snaps {
		x := h.Snaps[i]
		for k := range x.Map[:cap(x.Map)] {
			x.Map[:cap(x.Map)][k] = 2
		}
		for k := range x.Children[:cap(x.Children)] {
			x.Children[:cap(x.Children)][k] = "spoiled"
		}
	}
	for i := range h.Snaps[:cap(h.Snaps)] {
		h.Snaps[:cap(h.Snaps)][i] = head.Snap{Num: 99}
	}
}

func TestHandedIn(t *testing.T) {
	for i, call := range []func(p *pool.Pool, h head.Head) error{
		func(p *pool.Pool, h head.Head) error { return image.Save(p, 1, "a", h) },
		func(p *pool.Pool, h head.Head) error { return image.Create(p, 1, "b", h) },
		func(p *pool.Pool, h head.Head) error { return image.Create(p, 1, "a", h) },
		func(p *pool.Pool, h head.Head) error { return image.Save(p, 9, "a", h) },
		func(p *pool.Pool, h head.Head) error { _, err := image.Change(p, 1, "a", gives(h)); return err },
		func(p *pool.Pool, h head.Head) error { _, err := image.Change(p, 9, "a", gives(h)); return err },
	} {
		p, _ := roomy(t)
		must(t, image.Create(p, 1, "a", plain(1)))
		h := roomier()
		before := whole(h)
		err := call(p, h)
		if whole(h) != before {
			t.Errorf("call %d changes what it is handed", i)
		}
		after := stored(p)
		if spoil(h); stored(p) != after {
			t.Errorf("call %d keeps what it is handed", i)
		}
		if i == 1 || i == 0 || i == 4 {
			must(t, err)
		}
	}
}

func TestAnswers(t *testing.T) {
	p, _ := roomy(t)
	must(t, image.Create(p, 1, "a", full()))
	before := stored(p)
	got, err := image.Load(p, "a")
	must(t, err)
	spoil(got)
	loads(t, p, "a", full())
	// Neither what is told to the change, nor what it answers, is what Change answers.
	var told, made head.Head
	got, err = image.Change(p, 1, "a", func(h head.Head) (head.Head, error) {
		told, made = h, roomier()
		spoil(h)
		return made, nil
	})
	must(t, err)
	spoil(told)
	spoil(made)
	is(t, "the head then", got, nil, full(), nil)
	next, err := image.Change(p, 1, "a", func(h head.Head) (head.Head, error) {
		told = h
		return h, nil
	})
	must(t, err)
	spoil(told)
	is(t, "the head then, which was told", next, nil, full(), nil)
	spoil(got)
	is(t, "another answer", next, nil, full(), nil)
	l := image.List(p)
	for i := range l[:cap(l)] {
		l[:cap(l)][i] = "spoiled"
	}
	if l = image.List(p); len(l) != 1 || l[0] != "a" {
		t.Errorf("%q", l)
	}
	if loads(t, p, "a", full()); stored(p) != before {
		t.Error("the pool shares memory with what it answered")
	}
}

// The answer of Change shares no two lists.
func TestAnswersShareNothing(t *testing.T) {
	p, _ := roomy(t)
	h := full()
	row, kids := marks.Marks{1, 2, 3}, []string{"a", "b"}
	h.Map = row
	for i := range h.Snaps {
		x := &h.Snaps[i]
		x.Size, x.MapOn, x.Map, x.Protected, x.Children = 40, true, row, true, kids
	}
	must(t, image.Create(p, 1, "a", plain(1)))
	got, err := image.Change(p, 1, "a", gives(h))
	must(t, err)
	asked := h.Copy()
	got.Map[0], got.Snaps[0].Map[1], got.Snaps[0].Children[0] = 0, 0, "spoiled"
	asked.Map[0], asked.Snaps[0].Map[1], asked.Snaps[0].Children[0] = 0, 0, "spoiled"
	is(t, "a head of which some lists are changed", got, nil, asked, nil)
}
