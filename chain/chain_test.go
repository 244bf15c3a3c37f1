package chain_test

import (
	"errors"
	"fmt"
	"math"
	"strings"
	"testing"

	"lamina/api"
	"lamina/chain"
	"lamina/data"
	"lamina/disk"
	"lamina/head"
	"lamina/image"
	"lamina/pool"
	"lamina/snap"
)

func must(t *testing.T, err error) {
	t.Helper()
	if err != nil {
		t.Fatal(err)
	}
}

func want(t *testing.T, what string, got, asked error) {
	t.Helper()
	if !errors.Is(got, asked) {
		t.Errorf("%s: %v, not %v", what, got, asked)
	}
}

// roomy is a pool with room for all that a test needs, and its disk.
func roomy(t *testing.T) (*pool.Pool, *disk.Disk) {
	t.Helper()
	d, err := disk.New(1500)
	must(t, err)
	p, err := pool.Format(d, 6000)
	must(t, err)
	return p, d
}

// cutPower lets the power of a pool's disk go: the pool is stuck.
func cutPower(t *testing.T, p *pool.Pool, d *disk.Disk) {
	t.Helper()
	must(t, d.Arm(0))
	if _, err := p.Do("power", api.Step{Kind: api.Make}); err == nil || !p.Stuck() {
		t.Fatal("the pool isn't stuck")
	}
}

// lay lays a text under a name in a pool.
func lay(t *testing.T, p *pool.Pool, name, text string) {
	t.Helper()
	_, err := p.Do(name, api.Step{Kind: api.Make}, api.Step{Kind: api.Write, Data: []byte(text)}, api.Step{Kind: api.Cut, At: len(text)})
	must(t, err)
}

// put lays a data object into a pool.
func put(t *testing.T, p *pool.Pool, id, index int, o snap.Object) {
	t.Helper()
	text, err := snap.Put(o)
	must(t, err)
	lay(t, p, data.Name(id, index), string(text))
}

// create makes an image's header in a pool.
func create(t *testing.T, p *pool.Pool, name string, h head.Head) {
	t.Helper()
	must(t, image.Create(p, -1, name, h))
}

// stored is all that a pool's store holds.
func stored(p *pool.Pool) string { return string(p.Store().Put()) }

// object is a data object whose head is there.
func object(head string, seq int, clones ...snap.Clone) snap.Object {
	return snap.Object{There: true, Data: []byte(head), Seq: seq, Clones: clones}
}

// absent is a data object whose head isn't there.
func absent(seq int, clones ...snap.Clone) snap.Object {
	return snap.Object{Seq: seq, Clones: clones}
}

func clone(data string, snaps ...int) snap.Clone {
	return snap.Clone{Snaps: snaps, Data: []byte(data)}
}

// plain is a head of so many bytes, in data objects of so many.
func plain(id, size, object int) head.Head {
	return head.Head{ID: id, Size: size, Object: object, Owner: -1}
}

// snapped is a head with a snapshot 1 like it.
func snapped(id, size, object int, l head.Link) head.Head {
	h := plain(id, size, object)
	h.Link, h.Seq = l, 1
	h.Snaps = []head.Snap{{Num: 1, Name: "s", Size: size, Link: l}}
	return h
}

func link(parent string, snap, overlap int) head.Link {
	return head.Link{Parent: parent, ParentSnap: snap, Overlap: overlap}
}

// dots is bytes with dots in place of noughts.
func dots(b []byte) string { return strings.ReplaceAll(string(b), "\x00", ".") }

// no is so many dots.
func no(n int) string { return strings.Repeat(".", n) }

// reads holds an answer of Read against what it must be.
func reads(t *testing.T, p *pool.Pool, name string, num, at int, asked string) {
	t.Helper()
	b, err := chain.Read(p, name, num, at, len(asked))
	if err != nil || dots(b) != asked {
		t.Errorf("%s@%d from %d on: %q, %v; not %q", name, num, at, dots(b), err, asked)
	}
}

// fails holds an error of Read against what it must be.
func fails(t *testing.T, p *pool.Pool, name string, num, at, n int, asked error) {
	t.Helper()
	b, err := chain.Read(p, name, num, at, n)
	if want(t, fmt.Sprintf("%q@%d, %d from %d on", name, num, n, at), err, asked); len(b) > 0 {
		t.Errorf("Read answers %q beside its error", b)
	}
}

// bases holds an answer of Base against what it must be.
func bases(t *testing.T, p *pool.Pool, l head.Link, at, n int, asked string, bad error) {
	t.Helper()
	b, err := chain.Base(p, l, at, n)
	if !errors.Is(err, bad) || dots(b) != asked {
		t.Errorf("Base of %v, %d from %d on: %q, %v; not %q, %v", l, n, at, dots(b), err, asked, bad)
	}
}

// owns holds an answer of Own against what it must be.
func owns(t *testing.T, p *pool.Pool, name string, num, index int, asked bool, bad error) {
	t.Helper()
	ok, err := chain.Own(p, name, num, index)
	if !errors.Is(err, bad) || ok != asked {
		t.Errorf("Own of %q@%d, %d: %v, %v; not %v, %v", name, num, index, ok, err, asked, bad)
	}
}

// P16.1: View

func TestView(t *testing.T) {
	good := plain(1, 40, 16)
	good.Seq, good.Link = 9, link("mum", 3, 20)
	good.Snaps = []head.Snap{{Num: 2, Name: "a", Size: 4096}, {Num: 5, Name: "b", Size: 17, Link: link("dad", 1, 16)}, {Num: 9, Name: "c"}}
	// What is handed in need be no good head: its snapshots are what they are.
	odd := head.Head{Size: -5, Link: link("", -1, 99), Snaps: []head.Snap{
		{Num: 0, Size: 7}, {Num: -1, Size: -8, Link: link("A B", 0, -4)}, {Num: 3, Size: 1}, {Num: 3, Size: 2}, {Num: math.MinInt, Size: math.MaxInt},
	}}
	for _, row := range []struct {
		h         head.Head
		num, size int
		link      head.Link
		ok        bool
	}{
		{good, 0, 40, link("mum", 3, 20), true}, {good, 2, 4096, head.Link{}, true}, {good, 5, 17, link("dad", 1, 16), true}, {good, 9, 0, head.Link{}, true},
		{good, 1, 0, head.Link{}, false}, {good, 3, 0, head.Link{}, false}, {good, 10, 0, head.Link{}, false}, {good, -1, 0, head.Link{}, false}, {good, math.MinInt, 0, head.Link{}, false}, {good, math.MaxInt, 0, head.Link{}, false},
		{odd, 0, -5, link("", -1, 99), true}, {odd, -1, -8, link("A B", 0, -4), true}, {odd, 3, 1, head.Link{}, true}, {odd, math.MinInt, math.MaxInt, head.Link{}, true}, {odd, 1, 0, head.Link{}, false},
		{head.Head{}, 0, 0, head.Link{}, true}, {head.Head{}, 1, 0, head.Link{}, false}, {head.Head{}, -1, 0, head.Link{}, false},
	} {
		size, l, ok := chain.View(row.h, row.num)
		if size != row.size || l != row.link || ok != row.ok {
			t.Errorf("View %d: %d, %v, %v; not %d, %v, %v", row.num, size, l, ok, row.size, row.link, row.ok)
		}
	}
}

// P16.1: Read

// family is a pool with mum, of whom kid is a clone, of whom tot is one, each in data objects of its own size.
func family(t *testing.T) (*pool.Pool, *disk.Disk) {
	t.Helper()
	p, d := roomy(t)
	mum := snapped(1, 70, 16, head.Link{})
	mum.Size, mum.Seq = 20, 4
	mum.Snaps = append(mum.Snaps, head.Snap{Num: 4, Name: "small", Size: 10})
	create(t, p, "mum", mum)
	put(t, p, 1, 0, object("0123456789abcdefBEYOND", 4, clone("old", 1)))
	put(t, p, 1, 1, object("now", 1))
	put(t, p, 1, 2, absent(2, clone("ghijklmnopqrstuv", 1)))
	put(t, p, 1, 4, object("", 0))
	kid := snapped(2, 70, 32, link("mum", 1, 40))
	kid.Size, kid.Overlap = 64, 33
	create(t, p, "kid", kid)
	put(t, p, 2, 1, absent(1))
	put(t, p, 2, 2, object("KID", 0))
	create(t, p, "tot", snapped(3, 100, 64, link("kid", 1, 70)))
	put(t, p, 3, 1, object("TOT", 1, clone("", 1)))
	create(t, p, "other", plain(4, 4096, 256))
	return p, d
}

func TestRead(t *testing.T) {
	p, d := family(t)
	done := d.Steps()
	for range 2 {
		// What mum shows is her own; a data object that has fewer bytes shows noughts, and none that it has too many.
		reads(t, p, "mum", 0, 0, "0123456789abcdefnow.")
		reads(t, p, "mum", 0, 9, "9abcdefn")
		reads(t, p, "mum", 1, 0, "old"+no(29)+"ghijklmnopqrstuv"+no(22))
		reads(t, p, "mum", 4, 0, no(10))
		// What kid hasn't is mum's snapshot's, up to its view's Overlap.
		reads(t, p, "kid", 0, 0, "old"+no(29)+"g"+no(31))
		reads(t, p, "kid", 1, 0, "old"+no(29)+"ghijklmn"+no(24)+"KID...")
		reads(t, p, "kid", 1, 31, ".gh")
		reads(t, p, "kid", 1, 38, "mn.")
		reads(t, p, "kid", 1, 60, no(4)+"KID.")
		reads(t, p, "kid", 0, 32, "g.")
		// What tot hasn't is kid's snapshot's, and mum's; what it has is its own, though there be nothing in it.
		reads(t, p, "tot", 0, 0, "old"+no(29)+"ghijklmn"+no(24)+"TOT"+no(33))
		reads(t, p, "tot", 1, 0, "old"+no(29)+"ghijklmn"+no(24)+no(36))
		reads(t, p, "tot", 0, 30, "..ghijklmn.")
		reads(t, p, "other", 0, 0, no(4096))
		for _, name := range []string{"mum", "kid", "tot", "other"} {
			for at := range 21 {
				reads(t, p, name, 0, at, "")
			}
		}
		if d.Steps() != done {
			t.Error("Read does something with the disk")
		}
		cutPower(t, p, d) // what there is can be read nevertheless
		done = d.Steps()
	}
}

// The bytes that a clone has of its parent are those below both Overlap and the parent's size, whatever the sizes of data objects.
func TestOverlap(t *testing.T) {
	letters := strings.Repeat("abcdefghijklmnopqrstuvwxy", 3)[:70]
	for _, mine := range []int{16, 32, 64, 128, 256} {
		for _, parents := range []int{16, 32, 64, 128, 256} {
			p, _ := roomy(t)
			create(t, p, "mum", snapped(1, 70, parents, head.Link{}))
			for i := range head.Objects(70, parents) {
				put(t, p, 1, i, object(letters[i*parents:min(70, (i+1)*parents)], 0))
			}
			for i, overlap := range []int{0, 1, 15, 16, 17, 32, 33, 64, 69, 70, 71, 72, 100} {
				h := plain(9, 100, mine)
				h.Link = link("mum", 1, overlap)
				name := fmt.Sprint("kid-", i)
				create(t, p, name, h)
				reads(t, p, name, 0, 0, letters[:min(overlap, 70)]+no(100-min(overlap, 70)))
				bases(t, p, h.Link, 0, 100, letters[:min(overlap, 70)]+no(max(0, overlap-70)), nil)
			}
		}
	}
}

// A clone of which nothing was written shows its parent's snapshot.
func TestExample(t *testing.T) {
	p, _ := family(t)
	for _, name := range []string{"mum", "kid", "tot"} {
		h, err := image.Load(p, name)
		must(t, err)
		for _, s := range h.Snaps {
			asked, err := chain.Read(p, name, s.Num, 0, s.Size)
			must(t, err)
			for i, size := range []int{16, 32, 64, 128, 256} {
				kid := plain(77, s.Size, size)
				kid.Link = link(name, s.Num, s.Size)
				clone := fmt.Sprintf("clone-%s-%d-%d", name, s.Num, i)
				create(t, p, clone, kid)
				reads(t, p, clone, 0, 0, dots(asked))
			}
		}
	}
}

// noNames are texts that are no images' names.
func noNames() []string {
	return []string{"", "A", "Mum", "disk_1", "h.mum", "mum@1", "mum ", "mum\x00", "ä", strings.Repeat("x", 21), strings.Repeat("x", 5000)}
}

// odd are numbers that are odd as a number of a snapshot, a place, or a count.
func odd() []int {
	return []int{-1, -2, 3, 5, 4097, 1 << 31, math.MaxInt, math.MaxInt - 1, math.MinInt, math.MinInt + 1}
}

func TestReadErrors(t *testing.T) {
	p, _ := family(t)
	lay(t, p, "h.spoilt", "no head's text")
	before := stored(p)
	for _, num := range append(odd(), 0, 1) {
		for _, at := range append(odd(), 0, 1) {
			for _, n := range append(odd(), 0, 1) {
				fails(t, nil, "mum", num, at, n, api.ErrState)
				fails(t, nil, "Mum", num, at, n, api.ErrState)
				fails(t, p, "spoilt", num, at, n, api.ErrCorrupt)
				fails(t, p, "dad", num, at, n, api.ErrNone)
				if num != 0 && num != 1 {
					fails(t, p, "mum", num, at, n, api.ErrNone)
				}
			}
		}
		for _, name := range noNames() {
			fails(t, p, name, num, -1, -1, api.ErrRange)
			owns(t, p, name, num, -1, false, api.ErrRange)
		}
	}
	for _, row := range []struct{ num, at, n int }{
		{0, 0, 21}, {0, 20, 1}, {0, 21, 0}, {0, 1, 20}, {0, -1, 0}, {0, -1, 5}, {0, 0, -1}, {0, 5, -1}, {1, 0, 71}, {1, 70, 1}, {1, 71, 0}, {4, 0, 11}, {4, 11, 0},
		{0, 0, math.MaxInt}, {0, 1, math.MaxInt}, {0, math.MaxInt, 1}, {0, math.MaxInt, math.MaxInt}, {0, math.MinInt, math.MaxInt}, {0, math.MinInt, math.MinInt}, {0, 20, math.MinInt}, {0, 21, -1}, {0, math.MaxInt, math.MinInt},
	} {
		fails(t, p, "mum", row.num, row.at, row.n, api.ErrRange)
	}
	if stored(p) != before {
		t.Error("what is refused changes something")
	}
}

// P16.1: Base

func TestBase(t *testing.T) {
	p, d := family(t)
	done := d.Steps()
	for range 2 {
		for _, row := range []struct {
			link  head.Link
			at, n int
			asked string
		}{
			{link("mum", 1, 70), 0, 5, "old.."}, {link("mum", 1, 70), 31, 3, ".gh"}, {link("mum", 1, 70), 2, 1, "d"}, {link("mum", 1, 70), 46, 900, "uv" + no(22)},
			{link("mum", 1, 34), 31, 3, ".gh"}, {link("mum", 1, 33), 31, 3, ".g"}, {link("mum", 1, 33), 32, 1, "g"}, {link("mum", 1, 33), 33, 1, ""}, {link("mum", 1, 33), 34, 5, ""}, {link("mum", 1, 1), 0, 70, "o"},
			{link("mum", 1, 33), 0, 0, ""}, {link("mum", 1, 33), 33, 0, ""}, {link("mum", 1, 33), math.MaxInt, math.MaxInt, ""}, {link("mum", 1, 33), 32, math.MaxInt, "g"}, {link("mum", 1, 33), math.MaxInt, 0, ""},
			{link("mum", 1, 0), 0, 9, ""}, {link("mum", 1, -1), 0, 9, ""}, {link("mum", 1, math.MinInt), 0, 9, ""}, {link("mum", 1, math.MinInt), math.MaxInt, math.MaxInt, ""},
			// Beyond what the parent's view has, though not beyond Overlap, there are noughts.
			{link("mum", 1, 80), 69, 30, no(11)}, {link("mum", 1, 80), 70, 4, no(4)}, {link("mum", 1, 80), 75, 30, no(5)}, {link("mum", 4, 40), 3, 30, no(30)}, {link("mum", 1, math.MaxInt), 47, 60, "v" + no(59)}, {link("mum", 1, math.MaxInt), math.MaxInt - 3, 9, no(3)}, {link("mum", 1, math.MaxInt), 5000, 70000, no(70000)},
			// The head is the view of number 0.
			{link("mum", 0, 18), 9, 30, "9abcdefno"},
			{link("kid", 1, 70), 30, 40, "..ghijklmn" + no(24) + "KID..."}, {link("tot", 1, 100), 30, 40, "..ghijklmn" + no(30)}, {link("other", 0, 4096), 4090, 16, no(6)},
			// Without a parent nothing is shown of one.
			{link("", 1, 33), 0, 9, ""}, {link("", 0, 33), 0, 9, ""}, {head.Link{}, 0, 9, ""}, {head.Link{}, 0, 0, ""},
		} {
			bases(t, p, row.link, row.at, row.n, row.asked, nil)
		}
		if d.Steps() != done {
			t.Error("Base does something with the disk")
		}
		cutPower(t, p, d)
		done = d.Steps()
	}
}

func TestBaseErrors(t *testing.T) {
	p, _ := family(t)
	lay(t, p, "h.spoilt", "no head's text")
	for _, l := range []head.Link{{}, link("mum", 1, 40), link("mum", 9, 40), link("dad", 1, 40), link("A", -1, -1)} {
		for _, at := range odd() {
			for _, n := range odd() {
				bases(t, nil, l, at, n, "", api.ErrState)
				if at < 0 || n < 0 {
					bases(t, p, l, at, n, "", api.ErrRange)
				}
			}
			if at < 0 {
				bases(t, p, l, at, 0, "", api.ErrRange)
				bases(t, p, l, 0, at, "", api.ErrRange)
			}
		}
		bases(t, nil, l, 0, 0, "", api.ErrState)
	}
	broken := []head.Link{link("dad", 1, 40), link("dad", 0, 40), link("spoilt", 1, 40), link("spoilt", 0, 40)}
	for _, num := range odd() {
		broken = append(broken, link("mum", num, 40))
	}
	for _, name := range noNames()[1:] {
		broken = append(broken, link(name, 1, 40))
	}
	for _, l := range broken {
		bases(t, p, l, 0, 1, "", api.ErrCorrupt)
		bases(t, p, l, 39, math.MaxInt, "", api.ErrCorrupt)
		// Nothing of the parent is needed here.
		bases(t, p, l, 0, 0, "", nil)
		bases(t, p, l, 40, 1, "", nil)
		bases(t, p, l, math.MaxInt, math.MaxInt, "", nil)
	}
}

// P16.1: Own

func TestOwn(t *testing.T) {
	p, d := family(t)
	lay(t, p, "h.spoilt", "no head's text")
	put(t, p, 2, 3, object("beyond", 0))
	put(t, p, 2, -1, object("odd", 0))
	lay(t, p, "d.4.7", "spoilt")
	done := d.Steps()
	for range 2 {
		for _, row := range []struct {
			name string
			num  int
			ours string // of each data object whether it is there
		}{
			{"mum", 0, "xx"}, {"mum", 1, "x-x-x"}, {"mum", 4, "-"}, {"kid", 0, "--"}, {"kid", 1, "--x"}, {"tot", 0, "-x"}, {"tot", 1, "-x"}, {"other", 0, "-------?--------"},
		} {
			for i, c := range row.ours {
				bad := error(nil)
				if c == '?' {
					bad = api.ErrCorrupt
				}
				owns(t, p, row.name, row.num, i, c == 'x', bad)
			}
			for _, index := range append(odd(), len(row.ours), len(row.ours)+1, 256) {
				if index < 0 || index >= len(row.ours) {
					owns(t, p, row.name, row.num, index, false, api.ErrRange)
				}
			}
			for _, num := range []int{-1, 2, 3, 5, math.MaxInt, math.MinInt} {
				for _, index := range []int{0, 1, -1, 256, math.MaxInt} {
					owns(t, p, row.name, num, index, false, api.ErrNone)
				}
			}
		}
		for _, num := range []int{0, 1, -1, math.MaxInt} {
			for _, index := range []int{0, -1, math.MaxInt} {
				owns(t, p, "dad", num, index, false, api.ErrNone)
				owns(t, p, "spoilt", num, index, false, api.ErrCorrupt)
				owns(t, nil, "mum", num, index, false, api.ErrState)
				owns(t, nil, "Mum", num, index, false, api.ErrState)
			}
		}
		if d.Steps() != done {
			t.Error("Own does something with the disk")
		}
		cutPower(t, p, d)
		done = d.Steps()
	}
}
