package data_test

import (
	"errors"
	"fmt"
	"math"
	"strings"
	"testing"

	"lamina/api"
	"lamina/data"
	"lamina/disk"
	"lamina/pool"
	"lamina/snap"
)

func must(t *testing.T, err error) {
	t.Helper()
	if err != nil {
		t.Fatal(err)
	}
}

func want(t *testing.T, what string, got, asked error) {
	t.Helper()
	if !errors.Is(got, asked) {
		t.Errorf("%s: %v, not %v", what, got, asked)
	}
}

// fresh is a pool of so many blocks on a disk of so many sectors, and the disk.
func fresh(t *testing.T, sectors, blocks int) (*pool.Pool, *disk.Disk) {
	t.Helper()
	d, err := disk.New(sectors)
	must(t, err)
	p, err := pool.Format(d, blocks)
	must(t, err)
	return p, d
}

// roomy is a pool with room for all that a test needs, and its disk.
func roomy(t *testing.T) (*pool.Pool, *disk.Disk) {
	t.Helper()
	return fresh(t, 1000, 4000)
}

// cutPower lets the power of a pool's disk go: the pool is stuck.
func cutPower(t *testing.T, p *pool.Pool, d *disk.Disk) {
	t.Helper()
	must(t, d.Arm(0))
	if _, err := p.Do("power", api.Step{Kind: api.Make}); err == nil || !p.Stuck() {
		t.Fatal("the pool isn't stuck")
	}
}

// lay lays a text under a name in a pool.
func lay(t *testing.T, p *pool.Pool, name, text string) {
	t.Helper()
	_, err := p.Do(name, api.Step{Kind: api.Make}, api.Step{Kind: api.Write, Data: []byte(text)}, api.Step{Kind: api.Cut, At: len(text)})
	must(t, err)
}

// object is an object whose head is there.
func object(head string, seq int, clones ...snap.Clone) snap.Object {
	return snap.Object{There: true, Data: []byte(head), Seq: seq, Clones: clones}
}

// absent is an object whose head isn't there.
func absent(seq int, clones ...snap.Clone) snap.Object {
	return snap.Object{Seq: seq, Clones: clones}
}

func clone(data string, snaps ...int) snap.Clone {
	return snap.Clone{Snaps: snaps, Data: []byte(data)}
}

func context(seq int, snaps ...int) api.Context { return api.Context{Seq: seq, Snaps: snaps} }

// num is a number's eight bytes.
func num(n int) string {
	var b []byte
	for i := range 8 {
		b = append(b, byte(uint64(n)>>(8*i)))
	}
	return string(b)
}

// text is an object's text, as layer 9 tells it.
func text(o snap.Object) string {
	s := "\x00"
	if o.There {
		s = "\x01"
	}
	s += num(len(o.Data)) + string(o.Data) + num(o.Seq) + num(len(o.Clones))
	for _, c := range o.Clones {
		s += num(len(c.Snaps))
		for _, n := range c.Snaps {
			s += num(n)
		}
		s += num(len(c.Data)) + string(c.Data)
	}
	return s
}

// show is an object as one line: the head (- if it isn't there), Seq, and the clones.
func show(o snap.Object) string {
	s := "-"
	if o.There || len(o.Data) > 0 {
		s = fmt.Sprintf("%v %q", o.There, o.Data)
	}
	s += fmt.Sprintf(" %d", o.Seq)
	for _, c := range o.Clones {
		s += fmt.Sprintf(" %v%q", c.Snaps, c.Data)
	}
	return s
}

// is holds an object against what it must be; beside an error it must be none.
func is(t *testing.T, what string, got snap.Object, err error, asked snap.Object, bad error) {
	t.Helper()
	if want(t, what, err, bad); show(got) != show(asked) {
		t.Errorf("%s: %s, not %s", what, show(got), show(asked))
	}
}

// stored is all that a pool's store holds.
func stored(p *pool.Pool) string { return string(p.Store().Put()) }

func x(n int) string { return strings.Repeat("x", n) }

// goodOnes are good objects of all sorts; the first ones are empty.
func goodOnes() []snap.Object {
	full := object(x(256), 16)
	for s := range 16 {
		full.Clones = append(full.Clones, clone(x(s), s+1))
	}
	return []snap.Object{
		{}, absent(7), object("", 0), object("head", 0), object(x(256), 3), object("head", 3, clone("was", 1, 2)),
		object("", 3, clone("", 3)), absent(3, clone("was", 2)), absent(9, clone("a", 1), clone("bb", 4, 6), clone("", 9)),
		object("head", 9, clone("a", 1), clone("bb", 4, 6), clone("c", 8)), full, object("head", math.MaxInt, clone("last", math.MaxInt)),
	}
}

// P14.1: Name

func TestName(t *testing.T) {
	for _, row := range []struct {
		id, index int
		name      string
	}{
		{3, 12, "d.3.12"}, {0, 0, "d.0.0"}, {7, 255, "d.7.255"}, {10, 0, "d.10.0"}, {1 << 31, 100, "d.2147483648.100"}, {-1, 2, "d.-1.2"}, {2, -10, "d.2.-10"},
		{math.MaxInt, math.MinInt, "d.9223372036854775807.-9223372036854775808"}, {math.MinInt, 0, "d.-9223372036854775808.0"},
	} {
		if got := data.Name(row.id, row.index); got != row.name {
			t.Errorf("Name(%d, %d): %q, not %q", row.id, row.index, got, row.name)
		}
	}
}

// P14.1: Get

func TestGet(t *testing.T) {
	p, d := roomy(t)
	for i, o := range goodOnes() {
		lay(t, p, fmt.Sprint("d.7.", i), text(o))
	}
	done := d.Steps()
	for range 2 {
		for i, o := range goodOnes() {
			got, err := data.Get(p, 7, i)
			is(t, fmt.Sprint("object ", i), got, err, o, nil)
		}
		if d.Steps() != done {
			t.Error("Get does something with the disk")
		}
		cutPower(t, p, d) // what there is can be read nevertheless
		done = d.Steps()
	}
}

func TestGetOfNothing(t *testing.T) {
	p, _ := roomy(t)
	for _, name := range []string{"d.7.02", "d.07.2", "d.7.2.", "d.7.", "d.7", "7.2", "d.7.22", "d.77.2", "e.7.2", "D.7.2", "h.7.2"} {
		lay(t, p, name, text(object("other", 0)))
	}
	for _, id := range []int{7, 0, -1, 2, math.MaxInt, math.MinInt} {
		for _, index := range []int{2, 0, -2, 256, math.MaxInt, math.MinInt} {
			got, err := data.Get(p, id, index)
			is(t, data.Name(id, index), got, err, snap.Object{}, nil)
			for s := -1; s < 3; s++ {
				if b, there, err := data.At(p, id, index, s); b != nil || there || err != nil {
					t.Errorf("%s at %d: %q, %v, %v", data.Name(id, index), s, b, there, err)
				}
			}
		}
	}
	lay(t, p, "d.-1.-2", text(object("odd", 0)))
	got, err := data.Get(p, -1, -2)
	is(t, "numbers below 0", got, err, object("odd", 0), nil)
}

// spoiltTexts are bytes that are no good object's text.
func spoiltTexts() []string {
	whole := text(object("head", 9, clone("a", 1), clone("bb", 4, 6)))
	list := []string{
		"", "\x00", "x", whole + "\x00", whole[:len(whole)-1], whole[1:], "\x02" + whole[1:], text(object("a", -1)), text(object(x(257), 0)), text(snap.Object{Data: []byte("a")}),
		text(object("a", 1, clone("b", 2))), text(object("a", 3, clone("b", 2), clone("c", 1))), text(object("a", 3, clone("b"))), text(object("a", 3, clone(x(257), 1))), x(1 << 16),
	}
	many := absent(20)
	for s := range 17 {
		many.Clones = append(many.Clones, clone("m", s+1))
	}
	return append(list, text(many))
}

func TestCorrupt(t *testing.T) {
	for i, spoilt := range spoiltTexts() {
		what := fmt.Sprint("spoilt text ", i)
		p, d := fresh(t, 3000, 1<<13)
		lay(t, p, "d.7.2", spoilt)
		before, done := stored(p), d.Steps()
		got, err := data.Get(p, 7, 2)
		is(t, what, got, err, snap.Object{}, api.ErrCorrupt)
		for s := -1; s < 3; s++ {
			if b, there, err := data.At(p, 7, 2, s); b != nil || there || !errors.Is(err, api.ErrCorrupt) {
				t.Errorf("%s: at %d: %q, %v, %v", what, s, b, there, err)
			}
		}
		for _, client := range []int{-1, 0, 8} {
			for kind := -1; kind < 10; kind++ {
				for _, c := range []api.Context{context(0), context(-1), context(3, 2)} {
					want(t, what, data.Do(p, client, 7, 2, c, data.Change{Kind: kind, At: 2}), api.ErrCorrupt)
				}
			}
		}
		if stored(p) != before || d.Steps() != done {
			t.Errorf("%s: something is changed", what)
		}
		_, err = data.Get(p, 7, 1)
		want(t, what+", the next one", err, nil)
	}
}

func TestNilPool(t *testing.T) {
	for _, n := range []int{0, 1, -1, math.MaxInt, math.MinInt} {
		got, err := data.Get(nil, n, n)
		is(t, "Get", got, err, snap.Object{}, api.ErrState)
		b, there, err := data.At(nil, n, n, n)
		if want(t, "At", err, api.ErrState); b != nil || there {
			t.Errorf("At answers %q, %v beside its error", b, there)
		}
		for kind := range 9 {
			want(t, "Do", data.Do(nil, n, n, n, context(n), data.Change{Kind: kind, At: n, N: n}), api.ErrState)
		}
	}
}

// P14.1: At

func TestAt(t *testing.T) {
	p, _ := roomy(t)
	lay(t, p, "d.7.0", text(object("head", 9, clone("a", 2), clone("", 3, 5), clone("c", 8))))
	lay(t, p, "d.7.1", text(absent(9, clone("a", 2), clone("", 3, 5), clone("c", 8))))
	lay(t, p, "d.7.2", text(object("", 0)))
	for _, row := range []struct {
		index, s int
		data     string
	}{
		{0, 0, "head"}, {0, 1, "-"}, {0, 2, "a"}, {0, 3, ""}, {0, 4, "-"}, {0, 5, ""}, {0, 8, "c"}, {0, 9, "-"}, {0, 10, "head"}, {0, math.MaxInt, "head"}, {0, -1, "-"}, {0, math.MinInt, "-"},
		{1, 0, "-"}, {1, 2, "a"}, {1, 5, ""}, {1, 9, "-"}, {1, 10, "-"}, {1, -2, "-"}, {2, 0, ""}, {2, 1, ""}, {2, -1, "-"}, {3, 0, "-"}, {3, 1, "-"},
	} {
		got, there, err := data.At(p, 7, row.index, row.s)
		if err != nil || there != (row.data != "-") || there && string(got) != row.data || !there && got != nil {
			t.Errorf("object %d at %d: %q, %v, %v; not %q", row.index, row.s, got, there, err, row.data)
		}
	}
}
