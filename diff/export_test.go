package diff_test

import (
	"fmt"
	"math"
	"slices"
	"strings"
	"testing"

	"lamina/api"
	"lamina/data"
	"lamina/diff"
	"lamina/disk"
	"lamina/head"
	"lamina/image"
	"lamina/marks"
	"lamina/pool"
	"lamina/snap"
)

// roomy is a pool with room for all that a test needs, and its disk.
func roomy(t *testing.T) (*pool.Pool, *disk.Disk) {
	t.Helper()
	d, err := disk.New(1500)
	must(t, err)
	p, err := pool.Format(d, 6000)
	must(t, err)
	return p, d
}

// cutPower lets the power of a pool's disk go: the pool is stuck.
func cutPower(t *testing.T, p *pool.Pool, d *disk.Disk) {
	t.Helper()
	must(t, d.Arm(0))
	if _, err := p.Do("power", api.Step{Kind: api.Make}); err == nil || !p.Stuck() {
		t.Fatal("the pool isn't stuck")
	}
}

// lay lays a text under a name in a pool.
func lay(t *testing.T, p *pool.Pool, name, text string) {
	t.Helper()
	_, err := p.Do(name, api.Step{Kind: api.Make}, api.Step{Kind: api.Write, Data: []byte(text)}, api.Step{Kind: api.Cut, At: len(text)})
	must(t, err)
}

// put lays a data object into a pool.
func put(t *testing.T, p *pool.Pool, id, index int, o snap.Object) {
	t.Helper()
	text, err := snap.Put(o)
	must(t, err)
	lay(t, p, data.Name(id, index), string(text))
}

// stored is all that a pool's store holds.
func stored(p *pool.Pool) string { return string(p.Store().Put()) }

// clone is what a data object is at some snapshots.
func clone(data string, snaps ...int) snap.Clone {
	return snap.Clone{Snaps: snaps, Data: []byte(data)}
}

// object is a data object whose head is there.
func object(head string, seq int, clones ...snap.Clone) snap.Object {
	return snap.Object{There: true, Data: []byte(head), Seq: seq, Clones: clones}
}

// row is marks by the first letters of None, There, Going and Clean.
func row(s string) marks.Marks {
	m := marks.Marks{}
	for _, c := range s {
		m = append(m, byte(strings.IndexRune("ntgc", c)))
	}
	return m
}

// version is what a view is: its number, size, marks, and whether these are good; no marks, if it is told of them as -.
type version struct {
	num, size int
	marks     string
	bad       bool
}

// marked is a good head of image 7 in objects of 16, of snapshots and a head.
func marked(t *testing.T, views ...version) head.Head {
	t.Helper()
	h := head.Head{ID: 7, Object: 16, Owner: -1}
	for _, v := range views {
		s := head.Snap{Num: v.num, Name: fmt.Sprint("s", v.num), Size: v.size, MapOn: v.marks != "-", MapGood: v.marks != "-" && !v.bad}
		if s.MapOn {
			s.Map = row(v.marks)
		}
		if v.num == 0 {
			h.Size, h.MapOn, h.MapGood, h.Map = s.Size, s.MapOn, s.MapGood, s.Map
		} else {
			h.Seq, h.Snaps = v.num, append(h.Snaps, s)
		}
	}
	if !head.Good(h) {
		t.Fatal("the head isn't good")
	}
	return h
}

// linked is a head with a view that is a clone; 0 is the head.
func linked(h head.Head, num int, l head.Link) head.Head {
	h = h.Copy()
	if num == 0 {
		h.Link = l
	} else {
		h.Snaps[h.Number(num)].Link = l
	}
	return h
}

func link(parent string, snap, overlap int) head.Link {
	return head.Link{Parent: parent, ParentSnap: snap, Overlap: overlap}
}

// looks holds an answer of ByMarks against what it must be: rising numbers, or "all".
func looks(t *testing.T, h head.Head, from, to int, asked string) {
	t.Helper()
	list, ok := diff.ByMarks(h, from, to)
	got := strings.Trim(fmt.Sprint(list), "[]")
	if !ok {
		got += "all"
	}
	if got != asked {
		t.Errorf("from %d to %d there is looked at %s, not %s", from, to, got, asked)
	}
}

// odd are numbers that no view has.
func odd() []int {
	return []int{-1, -2, 1, 4, 6, 10, 1 << 32, math.MaxInt, math.MinInt}
}

// P17.1: ByMarks

func TestByMarks(t *testing.T) {
	// Snapshots 2, 3, 5 and 9, and the head, of six objects.
	h := marked(t, version{num: 2, size: 96, marks: "tttncn"}, version{num: 3, size: 96, marks: "ctcntn"}, version{num: 5, size: 96, marks: "ccgccn"}, version{num: 9, size: 96, marks: "ccnccn"}, version{size: 96, marks: "ccnnct"})
	for _, x := range []struct {
		from, to int
		asked    string
	}{
		// There and Going of the younger one's marks, and what is None in one of both.
		{2, 3, "1 4"}, {3, 5, "2 3"}, {5, 9, "2"}, {9, 0, "3 5"},
		// Those of all steps between two views come together; what the elder one's own marks tell is nothing to it.
		{2, 5, "1 2 3 4"}, {2, 9, "1 2 3 4"}, {3, 9, "2 3"}, {5, 0, "2 3 5"}, {2, 0, "1 2 3 4 5"}, {3, 0, "2 3 5"},
		{9, 5, "all"}, {5, 5, "all"}, {9, 9, "all"}, {3, 2, "all"}, {-1, 0, "all"}, {-1, 2, "all"}, {0, 0, "all"}, {0, 5, "all"}, {-2, 0, "all"},
	} {
		looks(t, h, x.from, x.to, x.asked)
	}
	for _, num := range odd() {
		looks(t, h, num, 0, "all")
		looks(t, h, num, 5, "all")
		looks(t, h, 2, num, "all")
		looks(t, h, num, num, "all")
	}
	// Nothing may have changed.
	h = marked(t, version{num: 1, size: 40, marks: "tnt"}, version{num: 2, size: 40, marks: "cnc"}, version{size: 40, marks: "cnc"})
	looks(t, h, 1, 2, "")
	looks(t, h, 1, 0, "")
	looks(t, h, 2, 0, "")
	empty := marked(t, version{num: 1, marks: ""}, version{marks: ""})
	looks(t, empty, 1, 0, "")
	looks(t, head.Head{}, -1, 0, "all")
	looks(t, head.Head{}, 0, 0, "all")
}

// Objects of which a byte was cut off, or came, at any of the views, are looked at.
func TestByMarksSizes(t *testing.T) {
	h := marked(t, version{num: 1, size: 64, marks: "nnnn"}, version{num: 2, size: 40, marks: "nnn"}, version{num: 3, size: 100, marks: "nnnnnnn"}, version{size: 48, marks: "nnn"})
	for _, x := range []struct {
		from, to int
		asked    string
	}{{1, 2, "2 3"}, {2, 3, "2 3 4 5 6"}, {3, 0, "3 4 5 6"}, {1, 3, "2 3 4 5 6"}, {1, 0, "2 3 4 5 6"}, {2, 0, "2 3 4 5 6"}} {
		looks(t, h, x.from, x.to, x.asked)
	}
	for _, x := range []struct {
		a, b  int
		asked string
	}{{48, 48, ""}, {47, 48, "2"}, {48, 49, "3"}, {32, 33, "2"}, {32, 48, "2"}, {31, 49, "1 2 3"}, {0, 1, "0"}, {0, 64, "0 1 2 3"}, {0, 0, ""}, {33, 47, "2"}, {63, 64, "3"}} {
		none := func(n int) string { return strings.Repeat("n", head.Objects(n, 16)) }
		looks(t, marked(t, version{num: 1, size: x.a, marks: none(x.a)}, version{size: x.b, marks: none(x.b)}), 1, 0, x.asked)
		looks(t, marked(t, version{num: 1, size: x.b, marks: none(x.b)}, version{size: x.a, marks: none(x.a)}), 1, 0, x.asked)
		// The size of a view between them counts, too, and none of those ahead of or behind them.
		looks(t, marked(t, version{num: 1, size: x.a, marks: none(x.a)}, version{num: 2, size: x.b, marks: none(x.b)}, version{size: x.a, marks: none(x.a)}), 1, 0, x.asked)
		looks(t, marked(t, version{num: 1, size: x.b, marks: none(x.b)}, version{num: 2, size: x.a, marks: none(x.a)}, version{num: 3, size: x.a, marks: none(x.a)}, version{size: x.b, marks: none(x.b)}), 2, 3, "")
	}
	// In data objects of another size.
	big := marked(t, version{num: 1, marks: ""}, version{marks: ""})
	big.Object, big.Snaps[0].Size, big.Snaps[0].Map, big.Size, big.Map = 256, 600, row("nnn"), 4096, row(strings.Repeat("n", 16))
	looks(t, big, 1, 0, "2 3 4 5 6 7 8 9 10 11 12 13 14 15")
}

// All objects are looked at, where marks of one of the views can't be relied on, or both aren't clones of the same.
func TestByMarksNot(t *testing.T) {
	good := []version{{num: 1, size: 40, marks: "ttt"}, {num: 2, size: 40, marks: "ctc"}, {num: 4, size: 40, marks: "cct"}, {size: 40, marks: "ccc"}}
	asked := func(from, to int, by map[int]bool) string {
		for num := range by {
			if num != 0 && num < from || to != 0 && (num == 0 || num > to) {
				continue
			}
			return "all"
		}
		return map[[2]int]string{{1, 2}: "1", {2, 4}: "2", {4, 0}: "", {1, 4}: "1 2", {2, 0}: "2", {1, 0}: "1 2"}[[2]int{from, to}]
	}
	for i := range good {
		for _, spoilt := range []version{{marks: "-"}, {bad: true}} {
			views := slices.Clone(good)
			views[i].bad = spoilt.bad
			if spoilt.marks == "-" {
				views[i].marks = "-"
			}
			h := marked(t, views...)
			for _, x := range [][2]int{{1, 2}, {2, 4}, {4, 0}, {1, 4}, {2, 0}, {1, 0}} {
				looks(t, h, x[0], x[1], asked(x[0], x[1], map[int]bool{views[i].num: true}))
			}
		}
	}
	// Links of both views are held against each other, not those between them.
	for _, other := range []head.Link{link("mum", 3, 20), link("mum", 2, 40), link("dad", 3, 40), {}} {
		h := marked(t, good...)
		for _, v := range good {
			h = linked(h, v.num, link("mum", 3, 40))
		}
		looks(t, h, 1, 0, "1 2")
		looks(t, linked(h, 0, other), 1, 0, "all")
		looks(t, linked(h, 1, other), 1, 0, "all")
		looks(t, linked(h, 1, other), 2, 0, "2")
		looks(t, linked(h, 0, other), 1, 4, "1 2")
		looks(t, linked(h, 2, other), 1, 4, "1 2")
		looks(t, linked(h, 2, other), 1, 2, "all")
		looks(t, linked(linked(h, 1, other), 0, other), 1, 0, "1 2")
	}
	// Of what is no head nothing is told.
	for _, spoil := range []func(h *head.Head){
		func(h *head.Head) { h.Object = 17 }, func(h *head.Head) { h.Object = 0 }, func(h *head.Head) { h.Size = -1 }, func(h *head.Head) { h.Size = 4097 }, func(h *head.Head) { h.Owner = 8 }, func(h *head.Head) { h.ID = -1 }, func(h *head.Head) { h.Snaps[0], h.Snaps[1] = h.Snaps[1], h.Snaps[0] },
		func(h *head.Head) { h.Map = h.Map[1:] }, func(h *head.Head) { h.Map[0] = 4 }, func(h *head.Head) { h.Snaps[0].Name = "" }, func(h *head.Head) { h.Intent = 9 }, func(h *head.Head) { h.Seq = 1 }, func(h *head.Head) { h.Snaps[0].Num = 0 }, func(h *head.Head) { h.Snaps[0].Size = math.MaxInt }, func(h *head.Head) { h.ParentSnap = 1 },
	} {
		h := marked(t, good...)
		spoil(&h)
		for _, from := range []int{-1, 0, 1, 2, 4} {
			for _, to := range []int{0, 1, 2, 4} {
				looks(t, h, from, to, "all")
			}
		}
	}
}

// P17.3: ByMarks

func TestByMarksMemory(t *testing.T) {
	h := marked(t, version{num: 1, size: 40, marks: "ttt"}, version{num: 2, size: 60, marks: "ctct"}, version{size: 60, marks: "ccct"})
	was := h.Copy()
	a, _ := diff.ByMarks(h, 1, 0)
	b, _ := diff.ByMarks(h, 1, 0)
	clear(a)
	if !head.Same(h, was) {
		t.Error("what is handed in is changed")
	}
	if fmt.Sprint(b) != "[1 2 3]" {
		t.Errorf("an answer hangs on another one: %v", b)
	}
}

// P17.1: Export

// fails holds an error of Export against what it must be.
func fails(t *testing.T, p *pool.Pool, name string, from, to int, asked error) {
	t.Helper()
	b, err := diff.Export(p, name, from, to)
	if want(t, fmt.Sprintf("%q from %d to %d", name, from, to), err, asked); b != nil {
		t.Errorf("Export answers %q beside its error", b)
	}
}

// exports holds an answer of Export against what it must be.
func exports(t *testing.T, p *pool.Pool, name string, from, to int, asked diff.Diff) {
	t.Helper()
	b, err := diff.Export(p, name, from, to)
	if want(t, fmt.Sprintf("%q from %d to %d", name, from, to), err, nil); string(b) != stream(asked) {
		d, err := diff.Take(b)
		t.Errorf("%q from %d to %d: %s, %v; not %s", name, from, to, tell(d), err, tell(asked))
	}
}

// plainly is a pool with the image plain, which has no marks: snapshots 2, 3 and 9, in objects of 16.
func plainly(t *testing.T) (*pool.Pool, *disk.Disk) {
	t.Helper()
	p, d := roomy(t)
	h := marked(t, version{num: 2, size: 40, marks: "-"}, version{num: 3, size: 40, marks: "-"}, version{num: 9, size: 20, marks: "-"}, version{size: 70, marks: "-"})
	must(t, image.Create(p, -1, "plain", h))
	put(t, p, 7, 0, object("zero", 9, clone("ZERO", 2), clone("zero", 3, 9)))
	put(t, p, 7, 1, snap.Object{Seq: 3, Clones: []snap.Clone{clone("one", 2)}})
	put(t, p, 7, 2, object("0123456789abcdef", 0))
	put(t, p, 7, 3, object("", 9))
	put(t, p, 7, 4, object("BEYOND", 9))
	return p, d
}

func TestExport(t *testing.T) {
	full := func(s string) string { return s + strings.Repeat("\x00", 16-len(s)) }
	p, d := plainly(t)
	done, before := d.Steps(), stored(p)
	for range 2 {
		exports(t, p, "plain", -1, 2, of(0, 40, at(0, full("ZERO")), at(16, full("one")), at(32, "01234567")))
		exports(t, p, "plain", -1, 3, of(0, 40, at(0, full("zero")), at(32, "01234567")))
		exports(t, p, "plain", -1, 9, of(0, 20, at(0, full("zero"))))
		exports(t, p, "plain", -1, 0, of(0, 70, at(0, full("zero")), at(32, "0123456789abcdef"), at(64, "BEYOND")))
		exports(t, p, "plain", 2, 3, of(40, 40, at(0, full("zero")), zero(16, 16)))
		exports(t, p, "plain", 2, 9, of(40, 20, at(0, full("zero")), zero(16, 4)))
		exports(t, p, "plain", 3, 9, of(40, 20))
		exports(t, p, "plain", 2, 0, of(40, 70, at(0, full("zero")), zero(16, 16), at(32, "0123456789abcdef"), at(64, "BEYOND")))
		exports(t, p, "plain", 3, 0, of(40, 70, at(32, "0123456789abcdef"), at(64, "BEYOND")))
		exports(t, p, "plain", 9, 0, of(20, 70, at(32, "0123456789abcdef"), at(64, "BEYOND")))
		if d.Steps() != done || !p.Stuck() && stored(p) != before {
			t.Error("Export does something with the pool")
		}
		cutPower(t, p, d) // what there is can be exported nevertheless
		done = d.Steps()
	}
	empty, _ := roomy(t)
	must(t, image.Create(empty, -1, "e", head.Head{Object: 256, Owner: -1}))
	exports(t, empty, "e", -1, 0, diff.Diff{})
}

func TestExportErrors(t *testing.T) {
	p, _ := plainly(t)
	lay(t, p, "h.spoilt", "no head's text")
	before := stored(p)
	for _, from := range append(odd(), 0, 2, 3, 9) {
		for _, to := range append(odd(), 0, 2, 3, 9) {
			fails(t, nil, "plain", from, to, api.ErrState)
			fails(t, nil, "Plain", from, to, api.ErrState)
			fails(t, p, "spoilt", from, to, api.ErrCorrupt)
			fails(t, p, "other", from, to, api.ErrNone)
			for _, name := range []string{"", "Plain", "plain@2", "h.plain", "a b", strings.Repeat("x", 21)} {
				fails(t, p, name, from, to, api.ErrRange)
			}
			// That there is no such view comes ahead of their order.
			is := func(num int) bool { return num == 2 || num == 3 || num == 9 }
			if from != -1 && !is(from) || to != 0 && !is(to) {
				fails(t, p, "plain", from, to, api.ErrNone)
			} else if to != 0 && to <= from {
				fails(t, p, "plain", from, to, api.ErrRange)
			}
		}
	}
	if stored(p) != before {
		t.Error("what is refused changes something")
	}
}

// What isn't looked at may have changed, and may be broken.
func TestExportByMarks(t *testing.T) {
	views := []version{{num: 1, size: 64, marks: "tttt"}, {num: 2, size: 64, marks: "cctc"}, {size: 64, marks: "cccg"}}
	build := func(views ...version) *pool.Pool {
		p, _ := roomy(t)
		must(t, image.Create(p, -1, "x", marked(t, views...)))
		put(t, p, 7, 0, object("now", 2, clone("one", 1), clone("two", 2)))
		lay(t, p, "d.7.1", "spoilt")
		for _, i := range []int{2, 3} {
			put(t, p, 7, i, object("0123456789abcdef", 2, clone("0123456789abcdef", 1, 2)))
		}
		return p
	}
	p := build(views...)
	exports(t, p, "x", 1, 2, of(64, 64))
	exports(t, p, "x", 1, 0, of(64, 64))
	exports(t, p, "x", 2, 0, of(64, 64))
	fails(t, p, "x", -1, 1, api.ErrCorrupt)
	fails(t, p, "x", -1, 0, api.ErrCorrupt)
	put(t, p, 7, 2, object("0123456789abcdef", 2, clone("0123456789ABCDEF", 1), clone("0123456789abcdef", 2)))
	put(t, p, 7, 3, object("", 2, clone("0123456789abcdef", 1, 2)))
	exports(t, p, "x", 1, 2, of(64, 64, at(32, "0123456789abcdef")))
	exports(t, p, "x", 1, 0, of(64, 64, at(32, "0123456789abcdef"), zero(48, 16)))
	exports(t, p, "x", 2, 0, of(64, 64, zero(48, 16)))
	lay(t, p, "d.7.3", "spoilt")
	exports(t, p, "x", 1, 2, of(64, 64, at(32, "0123456789abcdef")))
	fails(t, p, "x", 1, 0, api.ErrCorrupt)
	fails(t, p, "x", 2, 0, api.ErrCorrupt)
	// With one row of marks that isn't good all are looked at.
	for i := range views {
		other := slices.Clone(views)
		other[i].bad = true
		p := build(other...)
		fails(t, p, "x", 1, 0, api.ErrCorrupt)
		put(t, p, 7, 1, object("same", 0))
		exports(t, p, "x", 1, 0, of(64, 64, at(0, "now"+strings.Repeat("\x00", 13))))
	}
	// What was cut off, and came again, isn't told of by marks; what is cut off is no part of the diff.
	p = build(version{num: 1, size: 64, marks: "tttt"}, version{num: 2, size: 40, marks: "ccc"}, version{num: 3, size: 64, marks: "cccc"}, version{size: 20, marks: "cc"})
	put(t, p, 7, 2, object("01234567", 3, clone("0123456789abcdef", 1), clone("01234567", 2, 3)))
	put(t, p, 7, 3, snap.Object{Seq: 3, Clones: []snap.Clone{clone("gone", 1), clone("new", 3)}})
	exports(t, p, "x", 1, 2, of(64, 40))
	exports(t, p, "x", 1, 3, of(64, 64, at(32, "01234567\x00\x00\x00\x00\x00\x00\x00\x00"), at(48, "new"+strings.Repeat("\x00", 13))))
	exports(t, p, "x", 2, 3, of(40, 64, at(48, "new"+strings.Repeat("\x00", 13))))
	fails(t, p, "x", 3, 0, api.ErrCorrupt)
	put(t, p, 7, 1, object("same", 0))
	exports(t, p, "x", 3, 0, of(64, 20))
}

// Of clones what they show of their parents is told, too.
func TestExportClones(t *testing.T) {
	build := func(young head.Link) *pool.Pool {
		p, _ := roomy(t)
		mum := head.Head{ID: 1, Size: 60, Object: 32, Owner: -1, Seq: 1, Snaps: []head.Snap{{Num: 1, Name: "s", Size: 60}}}
		must(t, image.Create(p, -1, "mum", mum))
		put(t, p, 1, 0, object("mum's first", 0))
		put(t, p, 1, 1, object("mum's second", 0))
		h := marked(t, version{num: 1, size: 64, marks: "nnnn"}, version{size: 64, marks: "nntn"})
		must(t, image.Create(p, -1, "kid", linked(linked(h, 1, link("mum", 1, 60)), 0, young)))
		put(t, p, 7, 1, object("unmarked", 0))
		put(t, p, 7, 2, object("kid's", 0))
		return p
	}
	full := func(s string) string { return s + strings.Repeat("\x00", 16-len(s)) }
	p := build(link("mum", 1, 60))
	exports(t, p, "kid", -1, 1, of(0, 64, at(0, full("mum's first")), at(16, full("unmarked")), at(32, full("kid's"))))
	put(t, p, 7, 1, snap.Object{Seq: 2, Clones: []snap.Clone{clone("unmarked", 1)}})
	put(t, p, 7, 2, object("kid's", 9, clone("then", 2)))
	exports(t, p, "kid", 1, 0, of(64, 64, at(32, full("kid's"))))
	// Where the links are others, all objects are looked at.
	p = build(head.Link{})
	exports(t, p, "kid", 1, 0, of(64, 64, zero(0, 16)))
	// A parent that isn't there is asked for nothing, where no object is looked at that it shows.
	p = build(link("mum", 1, 60))
	must(t, image.Delete(p, -1, "mum"))
	exports(t, p, "kid", 1, 0, of(64, 64))
	fails(t, p, "kid", -1, 0, api.ErrCorrupt)
	fails(t, p, "kid", -1, 1, api.ErrCorrupt)
	put(t, p, 7, 2, object("kid's", 9, clone("then", 2)))
	fails(t, p, "kid", 1, 0, api.ErrCorrupt)
}

// P17.3: Export

func TestExportMemory(t *testing.T) {
	p, _ := plainly(t)
	a, err := diff.Export(p, "plain", 2, 0)
	must(t, err)
	was, before := string(a), stored(p)
	spoil(a)
	b, err := diff.Export(p, "plain", 2, 0)
	if must(t, err); string(b) != was || stored(p) != before {
		t.Error("what was answered hangs on the pool, or on another answer")
	}
}
