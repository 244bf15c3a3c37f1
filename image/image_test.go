package image_test

import (
	"errors"
	"fmt"
	"math"
	"slices"
	"strings"
	"testing"

	"lamina/api"
	"lamina/disk"
	"lamina/head"
	"lamina/image"
	"lamina/marks"
	"lamina/pool"
)

func must(t *testing.T, err error) {
	t.Helper()
	if err != nil {
		t.Fatal(err)
	}
}

func want(t *testing.T, what string, got, asked error) {
	t.Helper()
	if !errors.Is(got, asked) {
		t.Errorf("%s: %v, not %v", what, got, asked)
	}
}

// fresh is a pool of so many blocks on a disk of so many sectors, and the disk.
func fresh(t *testing.T, sectors, blocks int) (*pool.Pool, *disk.Disk) {
	t.Helper()
	d, err := disk.New(sectors)
	must(t, err)
	p, err := pool.Format(d, blocks)
	must(t, err)
	return p, d
}

// roomy is a pool with room for all that a test needs, and its disk.
func roomy(t *testing.T) (*pool.Pool, *disk.Disk) {
	t.Helper()
	return fresh(t, 1000, 4000)
}

// cutPower lets the power of a pool's disk go: the pool is stuck.
func cutPower(t *testing.T, p *pool.Pool, d *disk.Disk) {
	t.Helper()
	must(t, d.Arm(0))
	if _, err := p.Do("power", api.Step{Kind: api.Make}); err == nil || !p.Stuck() {
		t.Fatal("the pool isn't stuck")
	}
}

// lay lays a text under a name in a pool.
func lay(t *testing.T, p *pool.Pool, name, text string) {
	t.Helper()
	_, err := p.Do(name, api.Step{Kind: api.Make}, api.Step{Kind: api.Write, Data: []byte(text)}, api.Step{Kind: api.Cut, At: len(text)})
	must(t, err)
}

// stored is all that a pool's store holds.
func stored(p *pool.Pool) string { return string(p.Store().Put()) }

// x is so many letters.
func x(n int) string { return strings.Repeat("x", n) }

// num is a number's eight bytes.
func num(n int) string {
	var b []byte
	for i := range 8 {
		b = append(b, byte(uint64(n)>>(8*i)))
	}
	return string(b)
}

// text is a good head's text.
func text(h head.Head) string {
	b, err := head.Put(h)
	if err != nil {
		panic("no good head")
	}
	return string(b)
}

// plain is a head of image number id.
func plain(id int) head.Head { return head.Head{ID: id, Size: 40, Object: 16, Owner: -1} }

// full is a head of which nothing is missing.
func full() head.Head {
	h := plain(9)
	h.Seq, h.MapOn, h.MapGood, h.Map = 6, true, true, marks.Marks{1, 0, 2}
	h.Link = head.Link{Parent: "mother", ParentSnap: 2, Overlap: 33}
	h.Owner, h.Intent, h.To = 5, 2, 4
	h.Snaps = []head.Snap{
		{Num: 1, Name: "first"},
		{Num: 4, Name: "second", Size: 64, MapOn: true, MapGood: true, Map: marks.Marks{3, 1, 1, 0}, Link: h.Link, Protected: true, Children: []string{"a", "b", "kid"}},
	}
	return h
}

// goodOnes are good heads, whose texts are of all lengths.
func goodOnes() []head.Head {
	many := plain(1 << 40)
	many.Seq = 99
	for i := range 16 {
		s := head.Snap{Num: 3 * (i + 1), Name: fmt.Sprint("s-", i), Size: 4096, MapOn: true, Map: make(marks.Marks, 256), Protected: true}
		for k := range i {
			s.Children = append(s.Children, fmt.Sprint("child-", string(rune('a'+k))))
		}
		many.Snaps = append(many.Snaps, s)
	}
	return []head.Head{{Object: 16, Owner: -1}, full(), plain(3), many, {ID: 3, Size: 4096, Object: 256, Owner: 7, Intent: 1, To: 4096}}
}

// badOnes are heads that aren't good.
func badOnes() []head.Head {
	list := []head.Head{{}, {Object: 16, Owner: -2}, {Object: 16, Owner: 8}, {Object: 17, Owner: -1}, {ID: -1, Object: 16, Owner: -1}, {Size: 4097, Object: 16, Owner: -1}}
	for _, spoil := range []func(*head.Head){
		func(h *head.Head) { h.Map = h.Map[1:] }, func(h *head.Head) { h.Snaps[1].Name = "first" }, func(h *head.Head) { h.Snaps[1].Protected = false },
		func(h *head.Head) { h.Intent = 6 }, func(h *head.Head) { h.Overlap = 41 }, func(h *head.Head) { h.Seq = 3 },
	} {
		h := full()
		spoil(&h)
		list = append(list, h)
	}
	return list
}

// spoilt are bytes that are no head's text.
func spoilt() []string {
	whole := text(full())
	return []string{"", "\x00", "x", whole + "\x00", whole[:len(whole)-1], whole[1:], whole + whole, num(-1) + whole[8:], strings.Repeat("\xff", 300), x(4000)}
}

// noNames are texts that are no images' names.
func noNames() []string {
	return []string{"", "A", "disk_1", "disk 1", "Disk", "disk.1", "h.disk", "ä", "disk\x00", " disk", "disk\n", "/", ":", "`", "{", "@", x(21), x(30), x(31), x(5000)}
}

// names are images' names, rising.
func names() []string {
	return []string{"-", "0", "00", "9-", "a", "a-", "a0", "aa", "disk-1", "disk-10", "disk-2", "next", x(19), x(20), "z"}
}

// is holds a head against what it must be; beside an error it must be none.
func is(t *testing.T, what string, got head.Head, err error, asked head.Head, bad error) {
	t.Helper()
	if want(t, what, err, bad); !head.Same(got, asked) {
		t.Errorf("%s: %v, not %v", what, got, asked)
	}
}

// loads holds what an image's header says against what it must say.
func loads(t *testing.T, p *pool.Pool, name string, asked head.Head) {
	t.Helper()
	got, err := image.Load(p, name)
	is(t, "header "+name, got, err, asked, nil)
}

// P15.1: Name

func TestName(t *testing.T) {
	for _, name := range append(names(), noNames()...) {
		if got := image.Name(name); got != "h."+name {
			t.Errorf("Name(%q): %q", name, got)
		}
	}
}

// P15.1: List

func TestList(t *testing.T) {
	p, d := roomy(t)
	if l := image.List(p); len(l) != 0 {
		t.Errorf("a fresh pool: %q", l)
	}
	for i, name := range slices.Backward(names()) {
		if i%2 == 0 {
			must(t, image.Create(p, 1, name, plain(i)))
			continue
		}
		lay(t, p, "h."+name, "spoilt, and a header nevertheless")
	}
	for _, name := range []string{"h.", "h.A", "h.disk.1", "h.h.a", "h.disk_1", "h." + x(21), "h." + x(30), "h", "next", "d.1.2", "g.a", "hh.a", "i.a", "H.a", "xh.a", "a"} {
		lay(t, p, name, text(plain(7)))
	}
	done := d.Steps()
	for range 2 {
		if l := image.List(p); !slices.Equal(l, names()) {
			t.Errorf("%q, not %q", l, names())
		}
		if d.Steps() != done {
			t.Error("List does something with the disk")
		}
		cutPower(t, p, d) // what there is can be told nevertheless
		done = d.Steps()
	}
}

// P15.1: Load

func TestLoad(t *testing.T) {
	p, d := roomy(t)
	for i, h := range goodOnes() {
		lay(t, p, "h."+names()[i], text(h))
	}
	done := d.Steps()
	for range 2 {
		for i, h := range goodOnes() {
			loads(t, p, names()[i], h)
		}
		if d.Steps() != done {
			t.Error("Load does something with the disk")
		}
		cutPower(t, p, d)
		done = d.Steps()
	}
}

// An image's attributes, if someone sets any, are nothing to its header, and stay.
func TestAttributesStay(t *testing.T) {
	p, _ := roomy(t)
	lay(t, p, "h.a", text(full()))
	_, err := p.Do("h.a", api.Step{Kind: api.SetAttr, Name: "k", Data: []byte("v")})
	must(t, err)
	must(t, image.Save(p, 1, "a", plain(3)))
	loads(t, p, "a", plain(3))
	if list := p.Store().Attrs("h.a"); len(list) != 1 || list[0].Name != "k" || string(list[0].Value) != "v" {
		t.Error(list)
	}
}

// same is a change to what a head is already.
func same(h head.Head) (head.Head, error) { return h, nil }

// unasked is a change that must not be asked for.
func unasked(t *testing.T) func(head.Head) (head.Head, error) {
	return func(h head.Head) (head.Head, error) {
		t.Error("a change is asked for a head that there isn't")
		return plain(1), nil
	}
}

// clients are clients, and numbers that are none.
func clients() []int { return []int{-1, 0, 7, 8, 9, -2, math.MaxInt, math.MinInt} }

// refused holds all calls on an image's header, but for Create, against the error that comes ahead of all others.
func refused(t *testing.T, p *pool.Pool, name string, asked error) {
	t.Helper()
	what := fmt.Sprintf("image %q", name)
	got, err := image.Load(p, name)
	is(t, what, got, err, head.Head{}, asked)
	for _, client := range clients() {
		want(t, "Save of "+what, image.Save(p, client, name, full()), asked)
		want(t, "Save of "+what+", of no good head", image.Save(p, client, name, head.Head{}), asked)
		got, err = image.Change(p, client, name, unasked(t))
		is(t, "Change of "+what, got, err, head.Head{}, asked)
		got, err = image.Change(p, client, name, nil)
		is(t, "Change of "+what+" by nothing", got, err, head.Head{}, asked)
	}
}

func TestNoNames(t *testing.T) {
	p, d := roomy(t)
	for _, name := range noNames() {
		// Some of them are no objects' names either.
		_, _ = p.Do("h."+name, api.Step{Kind: api.Make}, api.Step{Kind: api.Write, Data: []byte(text(full()))})
	}
	if l := p.Names("h."); len(l) < 10 {
		t.Fatalf("%q: too few", l)
	}
	before, done := stored(p), d.Steps()
	for _, name := range noNames() {
		refused(t, p, name, api.ErrRange)
		for _, client := range clients() {
			want(t, "Create", image.Create(p, client, name, plain(1)), api.ErrRange)
			want(t, "Create of no good head", image.Create(p, client, name, head.Head{}), api.ErrRange)
			want(t, "Delete", image.Delete(p, client, name), api.ErrRange)
		}
	}
	if stored(p) != before || d.Steps() != done {
		t.Error("what is refused does something with the pool")
	}
}

func TestNoHeader(t *testing.T) {
	p, d := roomy(t)
	for _, name := range []string{"h.disk-10", "h.disk-", "h.", "h", "disk-1", "H.disk-1", "h.disk-1.", "h.disk_1", "g.disk-1", "next", "d.9.0"} {
		lay(t, p, name, text(full()))
	}
	before, done := stored(p), d.Steps()
	for _, name := range []string{"disk-1", "-", "next", x(20)} {
		refused(t, p, name, api.ErrNone)
		for _, client := range clients() {
			want(t, "Delete", image.Delete(p, client, name), api.ErrNone)
			want(t, "Create of no good head", image.Create(p, client, name, head.Head{}), api.ErrForm)
		}
	}
	if stored(p) != before || d.Steps() != done {
		t.Error("what is refused does something with the pool")
	}
}

func TestSpoiltHeader(t *testing.T) {
	for i, bytes := range spoilt() {
		p, d := roomy(t)
		lay(t, p, "h.disk-1", bytes)
		lay(t, p, "h.disk-2", text(full()))
		before, done := stored(p), d.Steps()
		refused(t, p, "disk-1", api.ErrCorrupt)
		for _, client := range clients() {
			want(t, "Create", image.Create(p, client, "disk-1", plain(1)), api.ErrExists)
			want(t, "Create of no good head", image.Create(p, client, "disk-1", head.Head{}), api.ErrForm)
		}
		if stored(p) != before || d.Steps() != done {
			t.Errorf("text %d: what is refused does something with the pool", i)
		}
		loads(t, p, "disk-2", full())
		must(t, image.Delete(p, 1, "disk-1")) // it can be dropped, whatever it says
		want(t, "Delete once more", image.Delete(p, 1, "disk-1"), api.ErrNone)
		must(t, image.Create(p, 1, "disk-1", plain(1)))
		loads(t, p, "disk-1", plain(1))
	}
}

func TestNilPool(t *testing.T) {
	if l := image.List(nil); len(l) != 0 {
		t.Errorf("List: %q", l)
	}
	for _, name := range []string{"a", "", "A", x(5000)} {
		refused(t, nil, name, api.ErrState)
		for _, client := range clients() {
			for _, h := range []head.Head{plain(1), {}} {
				want(t, "Create", image.Create(nil, client, name, h), api.ErrState)
			}
			want(t, "Delete", image.Delete(nil, client, name), api.ErrState)
			if n, err := image.Number(nil, client); n != 0 || !errors.Is(err, api.ErrState) {
				t.Errorf("Number: %d, %v", n, err)
			}
		}
	}
}
