package data_test

import (
	"bytes"
	"fmt"
	"slices"
	"testing"

	"lamina/api"
	"lamina/data"
	"lamina/pool"
	"lamina/snap"
	"lamina/store"
)

// dice is numbers that hang on its seed alone.
type dice uint64

func (r *dice) below(n int) int {
	*r = *r*6364136223846793005 + 1442695040888963407
	return int(uint64(*r)>>33) % n
}

// one is one of some values.
func one[T any](r *dice, list ...T) T { return list[r.below(len(list))] }

// model is data objects as the chapter tells them, in a store without a disk.
type model struct {
	objects map[string]snap.Object
	store   *store.Store
}

// does is Do.
func (m *model) does(client int, name string, c api.Context, x data.Change) error {
	o, there := m.objects[name]
	next, changed, err := then(o, c, x)
	if err != nil {
		return err
	}
	var steps []api.Step
	if client != -1 {
		steps = append(steps, api.Step{Kind: api.NeedAllowed, At: client})
	}
	switch {
	case !changed:
		next = o
	case !snap.Empty(next):
		b := []byte(text(next))
		steps = append(steps, api.Step{Kind: api.Make}, api.Step{Kind: api.Write, Data: b}, api.Step{Kind: api.Cut, At: len(b)})
	case there:
		steps = append(steps, api.Step{Kind: api.Drop})
	}
	if len(steps) > 0 {
		if _, err := m.store.Do(name, steps...); err != nil {
			return err
		}
	}
	m.objects[name] = next
	if snap.Empty(next) {
		delete(m.objects, name)
	}
	return nil
}

// which tells which of the things that an object is or was it is at a snapshot: a clone, the head, or none of them.
func which(o snap.Object, s int) string {
	for i, c := range o.Clones {
		if slices.Contains(c.Snaps, s) {
			return fmt.Sprint("clone ", i)
		}
	}
	if o.There && (s == 0 || s > o.Seq) {
		return "head"
	}
	return ""
}

// holds holds a pool against the model, at all snapshots up to one.
func (m *model) holds(t *testing.T, p *pool.Pool, seq int) {
	t.Helper()
	if stored(p) != string(m.store.Put()) {
		t.Fatal("the store is another one")
	}
	for id := range 2 {
		for index := range 3 {
			o := m.objects[data.Name(id, index)]
			got, err := data.Get(p, id, index)
			if is(t, data.Name(id, index), got, err, o, nil); t.Failed() {
				t.FailNow()
			}
		}
		for s := -1; s <= seq+1; s++ {
			m.scans(t, p, id, s, s-1)
			m.scans(t, p, id, 0, s)
		}
	}
}

// scans holds Scan and At against the model.
func (m *model) scans(t *testing.T, p *pool.Pool, id, s, before int) {
	t.Helper()
	there, clean, err := data.Scan(p, id, 4, s, before)
	if err != nil || len(there) != 4 || len(clean) != 4 {
		t.Fatal(there, clean, err)
	}
	for i := range 4 {
		o := m.objects[data.Name(id, i)]
		is := which(o, s)
		same := before != 0 && is != "" && which(o, before) == is
		b, at, err := data.At(p, id, i, s)
		asked, _ := snap.At(o, s)
		if there[i] != (is != "") || at != there[i] || clean[i] != same || err != nil || !bytes.Equal(b, asked) {
			t.Fatalf("%s of %s at %d, before %d: %v, %v, %q, %v", data.Name(id, i), show(o), s, before, there[i], clean[i], b, err)
		}
	}
}

// change is any change in a context, of which most can be done.
func (r *dice) change(c api.Context) data.Change {
	x := data.Change{Kind: one(r, 1, 1, 1, 2, 3, 4, 5, 5, 7, 7, 8), At: one(r, 0, 0, 1, 3, r.below(20), r.below(20), 250, 256, -1), N: one(r, 0, 1, 2, r.below(20), r.below(20), 257, -1)}
	for range one(r, 0, 1, 3, 5, r.below(20), r.below(60), r.below(270)) {
		x.Data = append(x.Data, byte('a'+r.below(26)))
	}
	if x.Kind == data.Back && len(c.Snaps) > 0 && r.below(10) > 0 {
		x.At = c.Snaps[r.below(len(c.Snaps))]
	}
	return x
}

// P14.1, P14.2: any changes, of some data objects that share a store that may be full, by clients of whom some are blocked.
func TestAnyChanges(t *testing.T) {
	errs := map[error]int{}
	for seed := range 60 {
		r := dice(seed)
		blocks := one(&r, 10, 30, 2000)
		p, _ := fresh(t, 3000, blocks)
		s, err := store.New(blocks)
		must(t, err)
		m := &model{map[string]snap.Object{}, s}
		c := context(0)
		for range 60 {
			if r.below(4) == 0 && len(c.Snaps) < 16 {
				c.Seq += one(&r, 1, 1, 2)
				c.Snaps = append([]int{c.Seq}, c.Snaps...)
			}
			x := r.change(c)
			if len(c.Snaps) > 0 && r.below(6) == 0 {
				i := r.below(len(c.Snaps))
				x = trim(one(&r, c.Snaps[i], c.Snaps[i], r.below(9)-1))
				c.Snaps = slices.Delete(slices.Clone(c.Snaps), i, i+1)
			}
			if r.below(60) == 0 {
				client := r.below(8)
				must(t, p.Block(client))
				must(t, m.store.Block(client))
			}
			client, id, index := r.below(10)-1, r.below(2), r.below(3)
			asked := m.does(client, data.Name(id, index), c, x)
			errs[asked]++
			want(t, fmt.Sprintf("row %d: client %d, %d.%d, %v, %v", seed, client, id, index, c, x), data.Do(p, client, id, index, c, x), asked)
			m.holds(t, p, c.Seq)
		}
	}
	for _, err := range []error{api.ErrRange, api.ErrForm, api.ErrBlocked, api.ErrFull} {
		if errs[err] < 30 {
			t.Errorf("%d changes answer %v: too few", errs[err], err)
		}
	}
	if errs[nil] < 1000 {
		t.Errorf("%d changes are done: too few", errs[nil])
	}
}

// P14.3: what is handed in is neither changed nor kept, and answers are new memory

// spare is a list with spare room, in which something stands.
func spare[T any](list []T, other T) []T {
	l := append(slices.Clone(list), other, other, other)
	return l[:len(list)]
}

func TestHandedIn(t *testing.T) {
	for _, client := range []int{-1, 2} {
		for i, x := range []data.Change{write(1, "xy"), write(6, "xy"), write(0, ""), zero(0, 2), cut(2), drop(), back(1), back(7), trim(1), over("xy"), {Kind: 9, Data: []byte("xy")}, write(-1, "xy")} {
			for index := range 2 { // object 1 isn't there
				p, _ := roomy(t)
				lay(t, p, "d.7.0", text(object("head", 5, clone("a", 1, 2), clone("bb", 3))))
				c := api.Context{Seq: 8, Snaps: spare([]int{8, 7, 3, 1}, 99)}
				x.Data = spare(x.Data, 's')
				all, snaps := bytes.Clone(x.Data[:cap(x.Data)]), slices.Clone(c.Snaps[:cap(c.Snaps)])
				data.Do(p, client, 7, index, c, x)
				if !bytes.Equal(x.Data[:cap(x.Data)], all) || !slices.Equal(c.Snaps[:cap(c.Snaps)], snaps) {
					t.Errorf("change %d changes what it is handed: %q, %v", i, x.Data, c)
				}
				before := stored(p)
				for k := range x.Data[:cap(x.Data)] {
					x.Data[:cap(x.Data)][k] = '!'
				}
				for k := range c.Snaps[:cap(c.Snaps)] {
					c.Snaps[:cap(c.Snaps)][k] = 5
				}
				if stored(p) != before {
					t.Errorf("change %d keeps what it is handed", i)
				}
			}
		}
	}
}

// rows are all rows of an object's bytes and of its snapshots, with their spare room.
func rows(o snap.Object) ([][]byte, [][]int) {
	content, snaps := [][]byte{o.Data[:cap(o.Data)]}, [][]int{}
	for _, c := range o.Clones {
		content, snaps = append(content, c.Data[:cap(c.Data)]), append(snaps, c.Snaps[:cap(c.Snaps)])
	}
	return content, snaps
}

func TestAnswers(t *testing.T) {
	p, _ := roomy(t)
	o := object("head", 9, clone("a", 1, 2), clone("bb", 3), clone("c", 4, 5, 7))
	lay(t, p, "d.7.0", text(o))
	before := stored(p)
	got, err := data.Get(p, 7, 0)
	is(t, "Get", got, err, o, nil)
	content, snaps := rows(got)
	for i, b := range content {
		for k := range b {
			b[k] = byte(i + 1)
		}
	}
	for i, l := range snaps {
		for k := range l {
			l[k] = i + 100
		}
	}
	for i, b := range content {
		if slices.ContainsFunc(b, func(c byte) bool { return c != byte(i+1) }) {
			t.Error("two rows of an object's bytes share memory")
		}
	}
	for i, l := range snaps {
		if slices.ContainsFunc(l, func(n int) bool { return n != i+100 }) {
			t.Error("two lists of an object's snapshots share memory")
		}
	}
	for _, s := range []int{0, 1, 3, 10} {
		b, _, err := data.At(p, 7, 0, s)
		must(t, err)
		copy(b[:cap(b)], "spoiled!")
	}
	there, clean, err := data.Scan(p, 7, 3, 0, 10)
	must(t, err)
	for i := range there[:cap(there)] {
		there[:cap(there)][i] = true
	}
	scans(t, "a list that is changed", there, clean, nil, "xxx", "x--")
	there, clean, err = data.Scan(p, 7, 3, 0, 10)
	scans(t, "anew", there, clean, err, "x--", "x--")
	if got, err := data.Get(p, 7, 0); stored(p) != before || show(got) != show(o) || err != nil {
		t.Error("the pool shares memory with what it answered")
	}
}
