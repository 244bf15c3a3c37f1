package pool_test

import (
	"errors"
	"math"
	"slices"
	"testing"

	"lamina/api"
	"lamina/disk"
	"lamina/journal"
	"lamina/pool"
	"lamina/store"
)

// dice is numbers that hang on its seed alone.
type dice uint64

func (r *dice) below(n int) int {
	*r = *r*6364136223846793005 + 1442695040888963407
	return int(uint64(*r)>>33) % n
}

// one is one of some values.
func one[T any](r *dice, list ...T) T { return list[r.below(len(list))] }

// keep is which writes are kept, of so many that wait: now and then fewer or more are told of.
func (r *dice) keep(waiting int) []bool {
	out := make([]bool, r.below(waiting+3))
	for n := range out {
		out[n] = r.below(2) == 0
	}
	return out
}

// call is an operation, or the blocking of a client, or neither of them.
type call struct {
	name   string
	steps  []api.Step
	block  bool
	client int
}

// text is its transaction's text.
func (c call) text() string {
	if c.block {
		return blockText(c.client)
	}
	return doText(c.name, c.steps...)
}

// changes tells whether it is to be noted: the kinds that change are numbered in one row.
func (c call) changes() bool {
	return c.block || slices.ContainsFunc(c.steps, func(s api.Step) bool { return s.Kind >= 6 && s.Kind <= 12 })
}

// with does it with a store.
func (c call) with(s *store.Store) ([]string, error) {
	if c.block {
		return nil, s.Block(c.client)
	}
	told, err := s.Do(c.name, c.steps...)
	return texts(told), err
}

// asks does it with a pool.
func (c call) asks(p *pool.Pool) ([]string, error) {
	if c.block {
		return nil, p.Block(c.client)
	}
	told, err := p.Do(c.name, c.steps...)
	return texts(told), err
}

// model is a pool as the chapter tells it, on a disk of its own: the store is a text, from which it is taken anew for each call.
type model struct {
	e     *disk.Disk
	j     *journal.Journal
	text  string
	stuck bool
}

func plainFormat(e *disk.Disk, blocks int) (*model, error) {
	s, err := store.New(blocks)
	if err != nil {
		return nil, err
	}
	j, err := journal.Format(e, s.Put())
	if err != nil {
		return nil, err
	}
	return &model{e: e, j: j, text: string(s.Put())}, nil
}

// plainOpen is Open: calls tells of all texts that there are, what they are.
func plainOpen(e *disk.Disk, calls map[string]call) (*model, error) {
	j, err := journal.Open(e)
	if err != nil {
		return nil, err
	}
	s, err := store.Take(j.State())
	if err != nil {
		return nil, api.ErrCorrupt
	}
	for _, tx := range j.Txs() {
		c, ok := calls[string(tx)]
		if !ok {
			return nil, api.ErrCorrupt
		}
		if _, err := c.with(s); err != nil {
			return nil, api.ErrCorrupt
		}
	}
	return &model{e: e, j: j, text: string(s.Put())}, nil
}

// does is a call, as the chapter tells it.
func (m *model) does(c call) ([]string, error) {
	if m.stuck {
		return nil, api.ErrDown
	}
	s, err := store.Take([]byte(m.text))
	if err != nil {
		return nil, err
	}
	told, err := c.with(s)
	if err != nil {
		return nil, err
	}
	if !c.changes() {
		return told, nil
	}
	if err := m.note(c.text()); err != nil {
		m.stuck = errors.Is(err, api.ErrDown)
		return nil, err
	}
	m.text = string(s.Put())
	return told, nil
}

func (m *model) note(tx string) error {
	need := 1
	for at := 0; at < len(tx); at += 106 {
		need++
	}
	if need > m.j.Room() {
		if err := m.j.Checkpoint([]byte(m.text)); err != nil {
			return err
		}
	}
	if need > m.j.Room() {
		return api.ErrFull
	}
	return m.j.Append([]byte(tx))
}

// seen is what it shows.
func (m *model) seen() seen { return seen{m.text, m.j.Gen(), m.j.Len(), m.stuck} }

// Calls of any kind.

func (r *dice) name() string {
	if r.below(30) == 0 {
		return one(r, "", " ", "a b", "é", x(33), "a\x00")
	}
	return one(r, "a", "b", "c", "ab", x(32))
}

func (r *dice) data() []byte {
	b := make([]byte, one(r, 0, 1, 16, 17, r.below(60), r.below(200)))
	for i := range b {
		b[i] = byte(r.below(256))
	}
	return b
}

func (r *dice) place() int {
	if r.below(40) == 0 {
		return one(r, -1, 7, 8, 1<<16, 1<<16+1, math.MaxInt, math.MinInt)
	}
	return one(r, 0, 1, 7, 16, r.below(120))
}

func (r *dice) step() api.Step {
	kind := one(r, api.Make, api.Write, api.Write, api.Zero, api.Cut, api.SetAttr, api.DropAttr, api.Read)
	if r.below(10) == 0 {
		kind = one(r, 1+r.below(14), 1+r.below(14), 1+r.below(14), 0, 15, -1, math.MaxInt)
	}
	return api.Step{Kind: kind, At: r.place(), Len: r.place(), Name: r.name(), Data: r.data()}
}

func (r *dice) call() call {
	if r.below(8) == 0 {
		return call{block: true, client: one(r, r.below(8), r.below(8), r.below(8), -1, 8)}
	}
	c := call{name: r.name()}
	if r.below(4) > 0 {
		c.steps = append(c.steps, create())
	}
	if r.below(5) == 0 { // it changes nothing
		for range 1 + r.below(3) {
			c.steps = append(c.steps, one(r, kind(api.NeedThere), read(0, 200), read(r.place(), r.place()), allowed(r.below(8))))
		}
		c.steps = c.steps[len(c.steps)/3:]
		return c
	}
	n := r.below(4)
	if r.below(20) == 0 {
		n = r.below(19)
	}
	for range n {
		c.steps = append(c.steps, r.step())
	}
	if r.below(10) == 0 {
		c.steps = append(c.steps, drop())
	}
	return c
}

// pair is a pool on its disk, and what it shall be on its own.
type pair struct {
	d, e  *disk.Disk
	p     *pool.Pool
	m     *model
	calls map[string]call
	errs  map[error]int
}

// take has what Format or Open answered: with an error the pair keeps what it has.
func (w *pair) take(t *testing.T, what string, p *pool.Pool, err error, m *model, asked error) {
	t.Helper()
	want(t, what, err, asked)
	if (p == nil) != (m == nil) {
		t.Fatalf("%s answers %v, %v", what, p, err)
	}
	if m != nil {
		w.p, w.m = p, m
	}
}

func (w *pair) open(t *testing.T) {
	t.Helper()
	p, err := pool.Open(w.d)
	m, asked := plainOpen(w.e, w.calls)
	w.take(t, "Open", p, err, m, asked)
}

// call does a call with both.
func (w *pair) call(t *testing.T, c call) {
	t.Helper()
	w.calls[c.text()] = c
	told, err := c.asks(w.p)
	other, asked := w.m.does(c)
	if !errors.Is(err, asked) || !slices.Equal(told, other) {
		t.Errorf("Do(%q, %v), or Block(%d): %q, %v; not %q, %v", c.name, kinds(c.steps), c.client, told, err, other, asked)
	}
	w.errs[asked]++
}

// slip appends a text behind the backs of both pools, and opens them.
func (w *pair) slip(t *testing.T, text string) {
	t.Helper()
	for _, d := range []*disk.Disk{w.d, w.e} {
		if j, err := journal.Open(d); err == nil {
			err = j.Append([]byte(text))
			if err != nil && !errors.Is(err, api.ErrFull) && !errors.Is(err, api.ErrDown) {
				t.Error(err)
			}
		}
	}
	w.open(t)
}

// act does the same with both.
func (w *pair) act(t *testing.T, r *dice) {
	t.Helper()
	switch r.below(40) {
	case 0, 1:
		w.open(t)
	case 2, 3:
		n := r.below(20)
		must(t, w.d.Arm(n))
		must(t, w.e.Arm(n))
	case 4:
		c := r.call()
		w.calls[c.text()] = c
		w.slip(t, one(r, c.text(), c.text(), c.text()+"\x00", c.text()[:r.below(9)+1]))
	case 5, 6, 7, 8:
		if w.e.Down() {
			keep := r.keep(w.e.Waiting())
			w.d.Crash(keep...)
			w.e.Crash(keep...)
			w.open(t)
		}
	default:
		w.call(t, r.call())
	}
}

// compare tells of what is another thing in one of both.
func (w *pair) compare(t *testing.T) {
	t.Helper()
	if looks(w.p) != w.m.seen() {
		t.Fatalf("the pool is %v, not %v", looks(w.p), w.m.seen())
	}
	s, err := store.Take([]byte(w.m.text))
	must(t, err)
	for _, prefix := range []string{"", "a", "b", "xx", " "} {
		if !slices.Equal(w.p.Names(prefix), s.Names(prefix)) {
			t.Fatalf("Names(%q) is %q", prefix, w.p.Names(prefix))
		}
	}
	for _, name := range []string{"a", "b", "c", "ab", x(32), x(33), "", " "} {
		b, ok := w.p.Look(name)
		told, err := s.Do(name, read(0, math.MaxInt))
		if ok != (err == nil) || ok && string(b) != string(told[0]) || !ok && b != nil {
			t.Fatalf("%q is %q, %v", name, b, ok)
		}
	}
	if w.d.Steps() != w.e.Steps() || w.d.Waiting() != w.e.Waiting() || w.d.Down() != w.e.Down() {
		t.Fatalf("the disk: %d steps, %d wait; not %d, %d", w.d.Steps(), w.d.Waiting(), w.e.Steps(), w.e.Waiting())
	}
	for i := range w.d.Len() {
		got, _ := w.d.Read(i)
		asked, _ := w.e.Read(i)
		if got != asked || w.d.Sure(i) != w.e.Sure(i) {
			t.Fatalf("sector %d is % x, not % x", i, got, asked)
		}
	}
}

// P8.1: any calls in any order, with crashes and others' transactions between them.
func TestAnyCalls(t *testing.T) {
	errs, gens, opens := map[error]int{}, 0, 0
	for seed := range 250 {
		r := dice(seed)
		n, blocks := one(&r, 8, 20, 30, 60, 200), one(&r, 0, 5, 30, 2000)
		w := &pair{d: newDisk(t, n), e: newDisk(t, n), calls: map[string]call{}, errs: errs}
		w.p = format(t, w.d, blocks)
		w.m, _ = plainFormat(w.e, blocks)
		for range 120 {
			if w.act(t, &r); !t.Failed() {
				w.compare(t)
			}
			if t.Failed() {
				t.Fatalf("with the row of %d", seed)
			}
		}
		gens += w.p.Gen()
		if w.m.j.Len() > 0 {
			opens++
		}
	}
	for _, err := range []error{nil, api.ErrRange, api.ErrForm, api.ErrDown, api.ErrFull, api.ErrExists, api.ErrNone, api.ErrGuard, api.ErrBlocked} {
		if errs[err] < 50 {
			t.Errorf("%v was answered %d times", err, errs[err])
		}
	}
	if gens < 1000 || opens < 100 {
		t.Errorf("%d generations, %d with transactions at the end: what is done is too tame", gens, opens)
	}
}
