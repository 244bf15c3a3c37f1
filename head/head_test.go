package head_test

import (
	"bytes"
	"encoding/binary"
	"errors"
	"fmt"
	"math"
	"reflect"
	"slices"
	"strings"
	"testing"

	"lamina/api"
	"lamina/head"
	"lamina/marks"
)

// plain is the least head.
func plain() head.Head { return head.Head{Object: 16, Owner: -1} }

// full is a head of which nothing is missing.
func full() head.Head {
	return head.Head{
		ID: 9, Size: 100, Object: 32, Seq: 6, MapOn: true, MapGood: true, Map: marks.Marks{1, 0, 2, 3}, Link: link("mother", 2, 70), Owner: 5, Intent: 2, To: 4,
		Snaps: []head.Snap{
			{Num: 1, Name: "first"},
			{Num: 2, Name: "2nd", Size: 64, Map: marks.Marks{3, 1}, MapOn: true, MapGood: true, Link: link("mother", 2, 64), Protected: true},
			{Num: 4, Name: "last-one", Size: 300, Map: marks.Marks{0, 1, 2, 3, 0, 1, 2, 3, 3, 3}, MapOn: true, Link: link("grandmother", 8, 1), Protected: true, Children: []string{"-", "0", "a", "a-clone", "b"}},
		},
	}
}

func link(parent string, snap, overlap int) head.Link {
	return head.Link{Parent: parent, ParentSnap: snap, Overlap: overlap}
}

// many is a head with so many snapshots, of the numbers from 1 on.
func many(n int) head.Head {
	h := plain()
	h.Seq = n
	for i := range n {
		h.Snaps = append(h.Snaps, head.Snap{Num: i + 1, Name: fmt.Sprint("s", i+1)})
	}
	return h
}

// edit is a change of a head.
type edit struct {
	what string
	do   func(*head.Head)
}

// goodEdits leave full a good head, and another one.
func goodEdits() []edit {
	return []edit{
		{"no ID", func(h *head.Head) { h.ID = 0 }},
		{"the greatest ID", func(h *head.Head) { h.ID = math.MaxInt }},
		{"of its greatest size", func(h *head.Head) { h.Size, h.Map = 4096, make(marks.Marks, 128) }},
		{"of as many objects", func(h *head.Head) { h.Size = 97 }},
		{"of as many whole objects", func(h *head.Head) { h.Size = 128 }},
		{"of no bytes", func(h *head.Head) { h.Size, h.Map, h.Overlap = 0, nil, 0 }},
		{"in objects of 16", func(h *head.Head) { *h = plain(); h.Size, h.MapOn, h.Map = 4096, true, make(marks.Marks, 256) }},
		{"in objects of 64", func(h *head.Head) { *h = plain(); h.Object = 64 }},
		{"in objects of 128", func(h *head.Head) { *h = plain(); h.Object = 128 }},
		{"in objects of 256", func(h *head.Head) {
			*h = plain()
			h.Object, h.Size, h.MapOn, h.Map = 256, 257, true, marks.Marks{1, 1}
		}},
		{"Seq of the last snapshot", func(h *head.Head) { h.Seq = 4 }},
		{"the greatest Seq", func(h *head.Head) { h.Seq = math.MaxInt }},
		{"without snapshots", func(h *head.Head) { h.Snaps, h.Intent, h.To = nil, 0, 0 }},
		{"16 snapshots", func(h *head.Head) { *h = many(16) }},
		{"marks that aren't good", func(h *head.Head) { h.MapGood = false }},
		{"without marks", func(h *head.Head) { h.MapOn, h.MapGood, h.Map = false, false, nil }},
		{"another mark", func(h *head.Head) { h.Map[3] = 0 }},
		{"without a parent", func(h *head.Head) { h.Link = head.Link{} }},
		{"another parent", func(h *head.Head) { h.Parent = "f" }},
		{"a parent of a long name", func(h *head.Head) { h.Parent = strings.Repeat("z", 20) }},
		{"the parent's first snapshot", func(h *head.Head) { h.ParentSnap = 1 }},
		{"the parent's last snapshot", func(h *head.Head) { h.ParentSnap = math.MaxInt }},
		{"of no Overlap", func(h *head.Head) { h.Overlap = 0 }},
		{"of the greatest Overlap", func(h *head.Head) { h.Overlap = 100 }},
		{"an owner", func(h *head.Head) { h.Owner = 0 }},
		{"the last owner", func(h *head.Head) { h.Owner = 7 }},
		{"no owner", func(h *head.Head) { h.Owner = -1 }},
		{"nothing being done", func(h *head.Head) { h.Intent, h.To = 0, 0 }},
		{"being cut to nothing", func(h *head.Head) { h.Intent, h.To = 1, 0 }},
		{"being cut to its size", func(h *head.Head) { h.Intent, h.To = 1, 100 }},
		{"being cut to the greatest size", func(h *head.Head) { h.Intent, h.To = 1, 4096 }},
		{"being brought back further", func(h *head.Head) { h.To = 1 }},
		{"a snapshot being removed", func(h *head.Head) { h.Intent = 3 }},
		{"another snapshot being removed", func(h *head.Head) { h.Intent, h.To = 3, 2 }},
		{"being parted", func(h *head.Head) { h.Intent, h.To = 4, 0 }},
		{"being removed", func(h *head.Head) { h.Intent, h.To = 5, 0 }},
		{"a snapshot's number", func(h *head.Head) { h.Snaps[1].Num = 3 }},
		{"a snapshot of number Seq", func(h *head.Head) { h.Snaps[2].Num, h.To = 6, 6 }},
		{"a snapshot's name", func(h *head.Head) { h.Snaps[0].Name = "1" }},
		{"a snapshot of a long name", func(h *head.Head) { h.Snaps[0].Name = strings.Repeat("-", 20) }},
		{"a snapshot called as the parent", func(h *head.Head) { h.Snaps[0].Name = "mother" }},
		{"a snapshot's size", func(h *head.Head) { h.Snaps[0].Size = 4096 }},
		{"a snapshot that is as full", func(h *head.Head) { h.Snaps[1].Size, h.Snaps[1].Overlap = 33, 33 }},
		{"a snapshot's marks that are good", func(h *head.Head) { h.Snaps[2].MapGood = true }},
		{"a snapshot's marks that aren't good", func(h *head.Head) { h.Snaps[1].MapGood = false }},
		{"a snapshot's marks of none", func(h *head.Head) { h.Snaps[0].MapOn = true }},
		{"a snapshot without marks", func(h *head.Head) { h.Snaps[2].MapOn, h.Snaps[2].Map = false, nil }},
		{"a snapshot's mark", func(h *head.Head) { h.Snaps[2].Map[9] = 1 }},
		{"a snapshot without a parent", func(h *head.Head) { h.Snaps[1].Link = head.Link{} }},
		{"a snapshot with a parent", func(h *head.Head) { h.Snaps[0].Link = link("x", 1, 0) }},
		{"a snapshot's parent", func(h *head.Head) { h.Snaps[1].Parent = "x" }},
		{"a snapshot's parent's snapshot", func(h *head.Head) { h.Snaps[1].ParentSnap = 9 }},
		{"a snapshot's Overlap", func(h *head.Head) { h.Snaps[2].Overlap = 300 }},
		{"a snapshot that isn't protected", func(h *head.Head) { h.Snaps[1].Protected = false }},
		{"a snapshot that is protected", func(h *head.Head) { h.Snaps[0].Protected = true }},
		{"without children", func(h *head.Head) { h.Snaps[2].Children = nil }},
		{"another child", func(h *head.Head) { h.Snaps[2].Children[4] = "c" }},
		{"one more child", func(h *head.Head) { h.Snaps[2].Children = append(h.Snaps[2].Children, "bb") }},
		{"a child of another one", func(h *head.Head) { h.Snaps[1].Children = []string{"a"} }},
		{"one snapshot less", func(h *head.Head) { h.Snaps = h.Snaps[1:] }},
		{"one snapshot more", func(h *head.Head) { h.Snaps = append(h.Snaps, head.Snap{Num: 5, Name: "x"}) }},
	}
}

// badEdits leave full a head that isn't good, each for one reason.
func badEdits() []edit {
	return slices.Concat(badNumbers(), badMarks(), badLinks(), badIntents(), badSnaps(), badChildren())
}

func badNumbers() []edit {
	list := []edit{
		{"ID -1", func(h *head.Head) { h.ID = -1 }},
		{"the least ID", func(h *head.Head) { h.ID = math.MinInt }},
		{"Size -1", func(h *head.Head) { *h = plain(); h.Size = -1 }},
		{"the least Size", func(h *head.Head) { *h = plain(); h.Size = math.MinInt }},
		{"too great a Size", func(h *head.Head) { *h = plain(); h.Size = 4097 }},
		{"the greatest Size", func(h *head.Head) { *h = plain(); h.Size = math.MaxInt }},
		{"too great a Size with marks", func(h *head.Head) { h.Size, h.Map = 4097, make(marks.Marks, 129) }},
		{"Seq -1", func(h *head.Head) { *h = plain(); h.Seq = -1 }},
		{"the least Seq", func(h *head.Head) { *h = plain(); h.Seq = math.MinInt }},
		{"Seq below the last snapshot", func(h *head.Head) { h.Seq = 3 }},
		{"Seq 0", func(h *head.Head) { h.Seq = 0 }},
		{"Owner -2", func(h *head.Head) { h.Owner = -2 }},
		{"the least Owner", func(h *head.Head) { h.Owner = math.MinInt }},
		{"Owner 8", func(h *head.Head) { h.Owner = 8 }},
		{"the greatest Owner", func(h *head.Head) { h.Owner = math.MaxInt }},
	}
	for _, n := range []int{math.MinInt, -16, -1, 0, 1, 8, 15, 17, 24, 48, 96, 112, 144, 192, 255, 257, 512, 4096, math.MaxInt} {
		list = append(list, edit{fmt.Sprint("Object ", n), func(h *head.Head) { *h = plain(); h.Object = n }})
	}
	return list
}

func badMarks() []edit {
	return []edit{
		{"marks, and none", func(h *head.Head) { h.MapOn, h.MapGood = false, false }},
		{"good, and none", func(h *head.Head) { h.MapOn, h.Map = false, nil }},
		{"good marks, and none", func(h *head.Head) { h.MapOn = false }},
		{"no row of marks", func(h *head.Head) { h.Map = nil }},
		{"a mark less", func(h *head.Head) { h.Map = h.Map[:3] }},
		{"a mark more", func(h *head.Head) { h.Map = append(h.Map, 0) }},
		{"a row of marks of no bytes", func(h *head.Head) { h.Size, h.Overlap, h.Map = 0, 0, make(marks.Marks, 1) }},
		{"an object less", func(h *head.Head) { h.Size = 96 }},
		{"an object more", func(h *head.Head) { h.Size = 129 }},
		{"no mark", func(h *head.Head) { h.Map[0] = 4 }},
		{"no mark at the end", func(h *head.Head) { h.Map[3] = 255 }},
		{"a snapshot's marks, and none", func(h *head.Head) { h.Snaps[2].MapOn = false }},
		{"a snapshot good, and none", func(h *head.Head) { h.Snaps[0].MapGood = true }},
		{"a snapshot's good marks, and none", func(h *head.Head) { h.Snaps[1].MapOn = false }},
		{"a snapshot's mark, and none", func(h *head.Head) { h.Snaps[0].Map = marks.Marks{0} }},
		{"a snapshot's missing marks", func(h *head.Head) { h.Snaps[2].Map = nil }},
		{"a snapshot's mark less", func(h *head.Head) { h.Snaps[2].Map = h.Snaps[2].Map[:9] }},
		{"a snapshot's mark more", func(h *head.Head) { h.Snaps[1].Map = append(h.Snaps[1].Map, 1) }},
		{"a snapshot's marks, as many as the head's", func(h *head.Head) { h.Snaps[2].Map = h.Snaps[2].Map[:4] }},
		{"a snapshot's object more", func(h *head.Head) { h.Snaps[1].Size = 65 }},
		{"a snapshot's byte that is no mark", func(h *head.Head) { h.Snaps[2].Map[5] = 4 }},
	}
}

func badLinks() []edit {
	list := []edit{
		{"a snapshot without a parent, but its snapshot", func(h *head.Head) { h.Snaps[0].ParentSnap = 1 }},
		{"a snapshot without a parent, but an Overlap", func(h *head.Head) { h.Snaps[2].Link = link("", 0, 1) }},
		{"a snapshot without a parent, but all of it", func(h *head.Head) { h.Snaps[1].Parent = "" }},
		{"a snapshot's parent of no name", func(h *head.Head) { h.Snaps[1].Parent = "Mother" }},
		{"a snapshot's parent's snapshot 0", func(h *head.Head) { h.Snaps[1].ParentSnap = 0 }},
		{"a snapshot's Overlap -1", func(h *head.Head) { h.Snaps[1].Overlap = -1 }},
		{"a snapshot's Overlap above its size", func(h *head.Head) { h.Snaps[1].Overlap = 65 }},
		{"a snapshot's Overlap below the head's size", func(h *head.Head) { h.Snaps[0].Link = link("x", 1, 1) }},
	}
	for _, l := range []head.Link{
		link("", 1, 0), link("", 0, 1), link("", 2, 70), link("", -1, 0), link("", 0, -1), link("M", 2, 70), link("a b", 2, 70), link(strings.Repeat("m", 21), 2, 70), link("a\x00", 2, 70),
		link("m", 0, 70), link("m", -1, 70), link("m", math.MinInt, 70), link("m", 0, 0), link("m", 2, -1), link("m", 2, math.MinInt), link("m", 2, 101), link("m", 2, math.MaxInt),
	} {
		list = append(list, edit{fmt.Sprint("Link ", l), func(h *head.Head) { h.Link = l }})
	}
	return list
}

func badIntents() []edit {
	var list []edit
	for _, x := range [][2]int{
		{0, 1}, {0, -1}, {0, 4}, {0, math.MaxInt}, {1, -1}, {1, 4097}, {1, math.MaxInt}, {1, math.MinInt}, {2, 0}, {2, -1}, {2, 3}, {2, 5}, {2, 6}, {2, 7}, {2, math.MaxInt},
		{3, 0}, {3, -1}, {3, 3}, {3, 6}, {3, math.MinInt}, {4, 1}, {4, -1}, {4, 4}, {5, 1}, {5, -1}, {5, 4}, {6, 0}, {6, 4}, {7, 0}, {-1, 0}, {-1, 4}, {math.MaxInt, 0}, {math.MinInt, 0},
	} {
		list = append(list, edit{fmt.Sprint("Intent and To ", x), func(h *head.Head) { h.Intent, h.To = x[0], x[1] }})
	}
	return append(list,
		edit{"brought back to none", func(h *head.Head) { h.Snaps = nil }},
		edit{"brought back to one that isn't there any more", func(h *head.Head) { h.Snaps = h.Snaps[:2] }})
}

func badSnaps() []edit {
	list := []edit{
		{"number 0", func(h *head.Head) { h.Snaps[0].Num = 0 }},
		{"number -1", func(h *head.Head) { h.Snaps[0].Num = -1 }},
		{"the least number", func(h *head.Head) { h.Snaps[0].Num = math.MinInt }},
		{"a number above Seq", func(h *head.Head) { h.Snaps[2].Num, h.To = 7, 7 }},
		{"the greatest number", func(h *head.Head) { h.Snaps[2].Num, h.To = math.MaxInt, math.MaxInt }},
		{"a first number above Seq", func(h *head.Head) { *h = many(1); h.Seq = 0 }},
		{"a number twice", func(h *head.Head) { h.Snaps[1].Num = 1 }},
		{"the last number twice", func(h *head.Head) { h.Snaps[1].Num = 4 }},
		{"a number that doesn't rise", func(h *head.Head) { h.Snaps[1].Num = 5 }},
		{"snapshots that fall", func(h *head.Head) { slices.Reverse(h.Snaps) }},
		{"a name twice", func(h *head.Head) { h.Snaps[0].Name = "2nd" }},
		{"a name twice, not side by side", func(h *head.Head) { h.Snaps[2].Name = "first" }},
		{"17 snapshots", func(h *head.Head) { *h = many(17) }},
		{"18 snapshots", func(h *head.Head) { *h = many(18) }},
		{"a snapshot's Size -1", func(h *head.Head) { h.Snaps[0].Size = -1 }},
		{"a snapshot's Size too great", func(h *head.Head) { h.Snaps[0].Size = 4097 }},
		{"a snapshot's greatest Size", func(h *head.Head) { h.Snaps[0].Size = math.MaxInt }},
		{"a last snapshot's Size too great", func(h *head.Head) { h.Snaps[2].Size, h.Snaps[2].Map = 4097, make(marks.Marks, 129) }},
	}
	for _, s := range badNames() {
		list = append(list, edit{fmt.Sprintf("snapshot %q", s), func(h *head.Head) { h.Snaps[1].Name = s }})
	}
	return list
}

func badChildren() []edit {
	children := func(what string, l ...string) edit {
		return edit{what, func(h *head.Head) { h.Snaps[2].Children = l }}
	}
	list := []edit{
		{"children, not protected", func(h *head.Head) { h.Snaps[2].Protected = false }},
		{"a child, not protected", func(h *head.Head) { h.Snaps[0].Children = []string{"a"} }},
		children("a child twice", "a", "a"), children("the last child twice", "a", "b", "c", "c"), children("a child that doesn't rise", "b", "a"),
		children("the last child doesn't rise", "a", "c", "b"), children("a child that is a part", "ab", "a"), children("a figure behind a letter", "a", "1"),
	}
	for _, s := range badNames() {
		list = append(list, children(fmt.Sprintf("child %q", s), s), children(fmt.Sprintf("last child %q", s), "-", s))
	}
	return list
}

// edited is full, changed.
func edited(e edit) head.Head {
	h := full()
	e.do(&h)
	return h
}

// P11.1: Named

func goodNames() []string {
	return []string{
		"a", "z", "0", "9", "-", "m", "5", "--", "a-9", "-a", "9-", "abc", "clone-of-1", "00", "abcdefghijklmnopqrst", "uvwxyz0123456789-", strings.Repeat("-", 19), strings.Repeat("a", 20), strings.Repeat("9", 20),
	}
}

func badNames() []string {
	return []string{
		"", "A", "Z", "_", ".", " ", "/", ":", "`", "{", "@", "[", "a b", "a ", " a", "ab_", "aB", "a.b", "h.a", "a\n", "a\x00", "\x00", "\x00a", "é", "ä", "a\u0301", "\xff", "a\x80", "\u2010", "a\u2013b", "０",
		strings.Repeat("a", 21), strings.Repeat("0", 22), strings.Repeat("-", 32), strings.Repeat("a", 276), strings.Repeat("a", 1<<16), strings.Repeat("a", 19) + "_", strings.Repeat("é", 10),
	}
}

func TestNamed(t *testing.T) {
	for _, s := range goodNames() {
		if !head.Named(s) {
			t.Errorf("%q is no name", s)
		}
	}
	for _, s := range badNames() {
		if head.Named(s) {
			t.Errorf("%q is a name", s)
		}
	}
	for c := range 256 {
		asked := strings.IndexByte("abcdefghijklmnopqrstuvwxyz0123456789-", byte(c)) >= 0
		for _, s := range []string{string([]byte{byte(c)}), "a" + string([]byte{byte(c)}), string([]byte{byte(c)}) + "a", "abcdefghi" + string([]byte{byte(c)}) + "0123456789"} {
			if head.Named(s) != asked {
				t.Errorf("%q: %v", s, !asked)
			}
		}
	}
}

// P11.1: Objects

func TestObjects(t *testing.T) {
	for _, x := range [][3]int{
		{33, 16, 3}, {32, 16, 2}, {1, 16, 1}, {0, 16, 0}, {-1, 16, 0}, {4096, 16, 256}, {4095, 16, 256}, {4097, 256, 17}, {5, 0, 0}, {5, -1, 0}, {-5, -1, 0}, {0, 0, 0}, {100, 1, 100}, {100, 7, 15}, {7, 100, 1},
		{math.MaxInt, 1, math.MaxInt}, {math.MaxInt, 2, 1 << 62}, {math.MaxInt, 256, 1 << 55}, {math.MaxInt - 1, math.MaxInt, 1}, {math.MaxInt, math.MaxInt, 1}, {math.MaxInt, math.MaxInt - 1, 2}, {1, math.MaxInt, 1},
		{math.MinInt, 16, 0}, {math.MinInt, math.MinInt, 0}, {16, math.MinInt, 0}, {math.MinInt, -1, 0}, {math.MaxInt, 0, 0}, {math.MinInt, 1, 0},
	} {
		if got := head.Objects(x[0], x[1]); got != x[2] {
			t.Errorf("%d bytes in objects of %d: %d, not %d", x[0], x[1], got, x[2])
		}
	}
	for size := -3; size < 600; size++ {
		for object := -3; object < 300; object++ {
			asked := 0
			for room := 0; object > 0 && room < size; room += object {
				asked++
			}
			if got := head.Objects(size, object); got != asked {
				t.Fatalf("%d bytes in objects of %d: %d, not %d", size, object, got, asked)
			}
		}
	}
}

// P11.1: Good, and what Put says of it

func TestGood(t *testing.T) {
	for _, h := range []head.Head{plain(), full(), many(1), many(16)} {
		if !head.Good(h) {
			t.Errorf("%+v isn't good", h)
		}
	}
	for _, e := range goodEdits() {
		h := edited(e)
		if b, err := head.Put(h); !head.Good(h) || err != nil || len(b) == 0 {
			t.Errorf("%s: not good, %v", e.what, err)
		}
	}
	if head.Good(head.Head{}) {
		t.Error("a head without an object's size is good")
	}
}

func TestNotGood(t *testing.T) {
	for _, e := range badEdits() {
		h := edited(e)
		if head.Good(h) {
			t.Errorf("%s: good", e.what)
		}
		if b, err := head.Put(h); !errors.Is(err, api.ErrForm) || b != nil {
			t.Errorf("%s: put, %v", e.what, err)
		}
	}
	if b, err := head.Put(head.Head{}); !errors.Is(err, api.ErrForm) || b != nil {
		t.Errorf("the zero head is put, %v", err)
	}
}

func TestManyChildren(t *testing.T) {
	h := full()
	h.Snaps[2].Children = nil
	for i := range 3000 {
		h.Snaps[2].Children = append(h.Snaps[2].Children, fmt.Sprintf("c%05d", i))
	}
	is(t, "many children", first(head.Put(h)), h)
	h.Snaps[2].Children[2999] = "c"
	if head.Good(h) {
		t.Error("the last one of many children doesn't rise")
	}
}

// P11.1, P11.2: Put and Take

// is tells of a text of which another head is taken.
func is(t *testing.T, what string, b []byte, asked head.Head) {
	t.Helper()
	h, err := head.Take(b)
	if err != nil || !same(h, asked) {
		t.Errorf("%s: %+v, %v; not %+v", what, h, err, asked)
	}
}

// refused tells of a text of which a head is taken.
func refused(t *testing.T, what string, b []byte) {
	t.Helper()
	if h, err := head.Take(b); !errors.Is(err, api.ErrForm) || !same(h, head.Head{}) || h.Snaps != nil || h.Map != nil {
		t.Errorf("%s: %+v, %v", what, h, err)
	}
}

func first(b []byte, err error) []byte {
	if err != nil {
		panic(err)
	}
	return b
}

// tidy is a head of its own memory, in which each empty list is nil.
func tidy(h head.Head) head.Head {
	h.Map = append(marks.Marks(nil), h.Map...)
	h.Snaps = append([]head.Snap(nil), h.Snaps...)
	for i, s := range h.Snaps {
		h.Snaps[i].Map = append(marks.Marks(nil), s.Map...)
		h.Snaps[i].Children = append([]string(nil), s.Children...)
	}
	return h
}

// same tells whether heads are alike, in other words than the package's.
func same(a, b head.Head) bool { return reflect.DeepEqual(tidy(a), tidy(b)) }

// num is a number's bytes, txt those of bytes or a text.
func num(l ...int) string {
	s := ""
	for _, n := range l {
		s += string(binary.LittleEndian.AppendUint64(nil, uint64(n)))
	}
	return s
}

func txt(s string) string { return num(len(s)) + s }

const (
	no  = "\x00"
	yes = "\x01"
)

// texts are heads and their texts.
func texts() map[string]head.Head {
	locked := plain()
	locked.ID, locked.Seq, locked.Owner, locked.Intent, locked.To = 258, math.MaxInt, 7, 1, 4096
	empty := plain()
	empty.MapOn, empty.MapGood = true, true
	none := txt("\x00\x00")
	return map[string]head.Head{
		num(0, 0, 16, 0, 0) + no + no + none + txt("") + num(0, 0) + num(-1, 0, 0):                                                                                    plain(),
		num(258, 0, 16, math.MaxInt, 0) + no + no + none + txt("") + num(0, 0) + num(7, 1, 4096):                                                                      locked,
		num(0, 0, 16, 0, 0) + yes + yes + none + txt("") + num(0, 0) + num(-1, 0, 0):                                                                                  empty,
		num(0, 0, 16, 1, 1) + num(1) + txt("s1") + num(0) + no + no + none + txt("") + num(0, 0) + no + num(0) + no + no + none + txt("") + num(0, 0) + num(-1, 0, 0): many(1),
		num(9, 100, 32, 6, 3) +
			num(1) + txt("first") + num(0) + no + no + none + txt("") + num(0, 0) + no + num(0) +
			num(2) + txt("2nd") + num(64) + yes + yes + txt("\x02\x00\x07") + txt("mother") + num(2, 64) + yes + num(0) +
			num(4) + txt("last-one") + num(300) + yes + no + txt("\x0a\x00\xe4\xe4\x0f") + txt("grandmother") + num(8, 1) + yes + num(5) + txt("-") + txt("0") + txt("a") + txt("a-clone") + txt("b") +
			yes + yes + txt("\x04\x00\xe1") + txt("mother") + num(2, 70) + num(5, 2, 4): full(),
	}
}

func TestTexts(t *testing.T) {
	for s, h := range texts() {
		if b, err := head.Put(h); err != nil || string(b) != s {
			t.Errorf("Put of %+v: %q, %v; not %q", h, b, err, s)
		}
		is(t, "Take", []byte(s), h)
	}
}

func TestPutIsTaken(t *testing.T) {
	seen := map[string]string{}
	for _, e := range goodEdits() {
		h := edited(e)
		b := first(head.Put(h))
		is(t, e.what, b, h)
		if other := seen[string(b)]; other != "" {
			t.Errorf("%s has the text of %s", e.what, other)
		}
		seen[string(b)] = e.what
	}
}

// Each text that is a good head's but for one thing.
func TestTextsOfBadHeads(t *testing.T) {
	for _, e := range badEdits() {
		// A byte that is no mark has no text.
		if h := edited(e); !hasOtherBytes(h) {
			refused(t, e.what, []byte(modelText(h)))
		}
	}
	refused(t, "the zero head", []byte(modelText(head.Head{})))
	for _, e := range goodEdits() {
		is(t, e.what, []byte(modelText(edited(e))), edited(e))
	}
}

// hasOtherBytes tells whether there are bytes among a head's marks that are none.
func hasOtherBytes(h head.Head) bool {
	rows := []marks.Marks{h.Map}
	for _, s := range h.Snaps {
		rows = append(rows, s.Map)
	}
	return slices.ContainsFunc(rows, func(m marks.Marks) bool { return len(m) > 0 && slices.Max(m) > 3 })
}

func TestOtherBytes(t *testing.T) {
	for s, h := range texts() {
		for n := range len(s) {
			refused(t, "the first bytes", []byte(s[:n]))
			refused(t, "the last bytes", []byte(s[n+1:]))
		}
		for _, more := range []string{"\x00", "\x01", num(0), txt("a"), s} {
			refused(t, "more behind it", []byte(s+more))
			refused(t, "more ahead of it", []byte(more+s))
		}
		is(t, "the same bytes", []byte(s), h)
	}
	refused(t, "nil", nil)
	for _, b := range []string{"", "\x00", num(0), num(0, 0, 16, 0), num(0, 0, 16, 0, 0), strings.Repeat("\x00", 74), strings.Repeat("\xff", 400), strings.Repeat("\x01", 400)} {
		refused(t, "bytes", []byte(b))
	}
}

// Counts that tell of what isn't there, and of so much that nobody could go through it.
func TestWrongCounts(t *testing.T) {
	tail := no + no + txt("\x00\x00") + txt("") + num(0, 0)
	snap := num(1) + txt("a") + num(0) + tail + yes
	for _, n := range []int{-1, 1, 2, 16, 17, 1 << 16, 1 << 32, 1 << 61, 1 << 62, math.MaxInt, math.MinInt} {
		refused(t, fmt.Sprint(n, " snapshots"), []byte(num(0, 0, 16, 1, n)+tail+num(-1, 0, 0)))
		refused(t, fmt.Sprint(n, " children"), []byte(num(0, 0, 16, 1, 1)+snap+num(n)+tail+num(-1, 0, 0)))
		refused(t, fmt.Sprint(n, " children at the end"), []byte(num(0, 0, 16, 1, 1)+snap+num(n)))
		refused(t, fmt.Sprint(n, " letters"), []byte(num(0, 0, 16, 1, 1)+snap+num(1)+num(n)))
		refused(t, fmt.Sprint(n, " bytes of marks"), []byte(num(0, 0, 16, 1, 0)+no+no+num(n)))
		refused(t, fmt.Sprint(n, " bytes of marks with a tail"), []byte(num(0, 0, 16, 1, 0)+no+no+num(n)+txt("")+num(0, 0, -1, 0, 0)))
		refused(t, fmt.Sprint(n, " letters of the parent"), []byte(num(0, 0, 16, 1, 0)+no+no+txt("\x00\x00")+num(n)+num(0, 0, -1, 0, 0)))
	}
	is(t, "one snapshot", []byte(num(0, 0, 16, 1, 1)+snap+num(0)+tail+num(-1, 0, 0)), head.Head{Object: 16, Seq: 1, Owner: -1, Snaps: []head.Snap{{Num: 1, Name: "a", Protected: true}}})
}

// What stands in a text instead of flags, marks' bytes and numbers.
func TestOtherParts(t *testing.T) {
	before := num(0, 33, 16, 0, 0)
	after := txt("") + num(0, 0, -1, 0, 0)
	h := plain()
	h.Size, h.MapOn, h.Map = 33, true, marks.Marks{1, 2, 3}
	is(t, "as it should be", []byte(before+yes+no+txt("\x03\x00\x39")+after), h)
	for _, s := range []string{
		"\x02" + no, yes + "\x02", "\xff" + no, no + no, yes + yes + yes, yes, no + yes,
	} {
		refused(t, "other flags", []byte(before+s+txt("\x03\x00\x39")+after))
	}
	for _, s := range []string{
		"", "\x00", "\x00\x00", "\x03\x00", "\x03\x00\x39\x00", "\x03\x00\x79", "\x03\x00\xf9", "\x02\x00\x09", "\x04\x00\x39", "\x03\x01\x39", "\x04\x00\x79", "\x03\x00\x39\x39",
	} {
		refused(t, "other marks", []byte(before+yes+no+txt(s)+after))
		refused(t, "marks that are turned off", []byte(before+no+no+txt(s+"\x01")+after))
	}
	refused(t, "numbers as a row of numbers", []byte(num(4, 0, 33, 16, 0, 0)+yes+no+txt("\x03\x00\x39")+after))
}

// P11.1: Snap, Number, Context

func TestWhere(t *testing.T) {
	h := full()
	for name, asked := range map[string]int{"first": 0, "2nd": 1, "last-one": 2, "": -1, "last": -1, "FIRST": -1, "first ": -1, "mother": -1, "a": -1} {
		if got := h.Snap(name); got != asked {
			t.Errorf("snapshot %q: %d", name, got)
		}
	}
	for num, asked := range map[int]int{1: 0, 2: 1, 4: 2, 0: -1, 3: -1, 5: -1, 6: -1, -1: -1, math.MaxInt: -1, math.MinInt: -1} {
		if got := h.Number(num); got != asked {
			t.Errorf("snapshot %d: %d", num, got)
		}
	}
	if plain().Snap("") != -1 || plain().Number(0) != -1 || (head.Head{}).Snap("a") != -1 || (head.Head{}).Number(1) != -1 {
		t.Error("there is a snapshot of a head without any")
	}
	big := many(16)
	for i := range 16 {
		if big.Number(i+1) != i || big.Snap(fmt.Sprint("s", i+1)) != i {
			t.Errorf("snapshot %d of many", i)
		}
	}
}

// odd is a head with snapshots that are none.
func odd() head.Head {
	h := head.Head{Seq: -5}
	for _, s := range []head.Snap{{Num: 3, Name: "b"}, {Num: -2, Name: ""}, {Num: 3, Name: "a"}, {Num: 0, Name: "b"}, {Num: 9, Name: "A b"}, {Num: -2, Name: "a"}, {Num: math.MaxInt, Name: strings.Repeat("x", 50)}} {
		h.Snaps = append(h.Snaps, s)
	}
	return h
}

func TestWhereInOddHeads(t *testing.T) {
	h := odd()
	for name, asked := range map[string]int{"b": 0, "": 1, "a": 2, "A b": 4, strings.Repeat("x", 50): 6, "x": -1} {
		if got := h.Snap(name); got != asked {
			t.Errorf("snapshot %q: %d", name, got)
		}
	}
	for num, asked := range map[int]int{3: 0, -2: 1, 0: 3, 9: 4, math.MaxInt: 6, 1: -1, math.MinInt: -1} {
		if got := h.Number(num); got != asked {
			t.Errorf("snapshot %d: %d", num, got)
		}
	}
	big := many(40)
	if big.Number(40) != 39 || big.Snap("s33") != 32 || big.Number(41) != -1 {
		t.Error("snapshots of too many")
	}
}

func TestContext(t *testing.T) {
	long := many(40).Context()
	if long.Seq != 40 || len(long.Snaps) != 40 || long.Snaps[0] != 40 || long.Snaps[39] != 1 {
		t.Errorf("the context of too many snapshots: %v", long)
	}
	for _, x := range []struct {
		h     head.Head
		asked api.Context
	}{
		{head.Head{}, api.Context{}}, {plain(), api.Context{}}, {full(), api.Context{Seq: 6, Snaps: []int{4, 2, 1}}}, {many(1), api.Context{Seq: 1, Snaps: []int{1}}}, {head.Head{Seq: 7}, api.Context{Seq: 7}},
		{many(16), api.Context{Seq: 16, Snaps: []int{16, 15, 14, 13, 12, 11, 10, 9, 8, 7, 6, 5, 4, 3, 2, 1}}},
		{odd(), api.Context{Seq: -5, Snaps: []int{math.MaxInt, -2, 9, 0, 3, -2, 3}}},
	} {
		if c := x.h.Context(); c.Seq != x.asked.Seq || !slices.Equal(c.Snaps, x.asked.Snaps) {
			t.Errorf("the context of %+v: %v, not %v", x.h, c, x.asked)
		}
	}
}

// P11.1: Copy, Same

// heads are heads of all sorts.
func heads() []head.Head {
	list := []head.Head{{}, plain(), full(), many(16), many(40), odd()}
	for _, e := range append(goodEdits(), badEdits()...) {
		list = append(list, edited(e))
	}
	return list
}

func TestCopyIsTheSame(t *testing.T) {
	for _, h := range heads() {
		c := h.Copy()
		if !same(c, h) || !head.Same(c, h) || !head.Same(h, c) || !head.Same(h, h) || head.Good(c) != head.Good(h) {
			t.Errorf("%+v is copied as %+v", h, c)
		}
	}
}

func TestSame(t *testing.T) {
	list := heads()
	for _, a := range list {
		for _, b := range list {
			if head.Same(a, b) != same(a, b) {
				t.Fatalf("%+v and %+v: the same: %v", a, b, head.Same(a, b))
			}
		}
	}
	for _, e := range append(goodEdits(), badEdits()...) {
		if h := edited(e); head.Same(h, full()) || head.Same(full(), h) {
			t.Errorf("%s is as if it weren't", e.what)
		}
	}
}

// What isn't looked at elsewhere counts too.
func TestSameInEachField(t *testing.T) {
	for i, do := range []func(*head.Head){
		func(h *head.Head) { h.ID++ }, func(h *head.Head) { h.Size++ }, func(h *head.Head) { h.Object++ }, func(h *head.Head) { h.Seq++ }, func(h *head.Head) { h.MapOn = !h.MapOn }, func(h *head.Head) { h.MapGood = !h.MapGood },
		func(h *head.Head) { h.Map = append(h.Map, 0) }, func(h *head.Head) { h.Parent += "x" }, func(h *head.Head) { h.ParentSnap++ }, func(h *head.Head) { h.Overlap++ }, func(h *head.Head) { h.Owner++ },
		func(h *head.Head) { h.Intent++ }, func(h *head.Head) { h.To++ }, func(h *head.Head) { h.Snaps = append(h.Snaps, head.Snap{}) }, func(h *head.Head) { h.Snaps[1].Num++ }, func(h *head.Head) { h.Snaps[1].Size++ },
		func(h *head.Head) { h.Snaps[1].Name += "x" }, func(h *head.Head) { h.Snaps[1].MapOn = !h.Snaps[1].MapOn }, func(h *head.Head) { h.Snaps[1].MapGood = !h.Snaps[1].MapGood },
		func(h *head.Head) { h.Snaps[1].Protected = !h.Snaps[1].Protected }, func(h *head.Head) { h.Snaps[1].Map = append(h.Snaps[1].Map, 0) }, func(h *head.Head) { h.Snaps[1].Parent += "x" },
		func(h *head.Head) { h.Snaps[1].ParentSnap++ }, func(h *head.Head) { h.Snaps[1].Overlap++ }, func(h *head.Head) { h.Snaps[1].Children = append(h.Snaps[1].Children, "") },
		func(h *head.Head) { h.Snaps[0], h.Snaps[1] = h.Snaps[1], h.Snaps[0] },
	} {
		for _, h := range []head.Head{full(), odd()} {
			c := tidy(h)
			do(&c)
			if head.Same(c, h) || head.Same(h, c) {
				t.Errorf("change %d is as if it weren't", i)
			}
		}
	}
}

func TestNilIsAsEmpty(t *testing.T) {
	a, b := many(2), many(2)
	b.Map = marks.Marks{}
	for i := range b.Snaps {
		b.Snaps[i].Map, b.Snaps[i].Children = marks.Marks{}, []string{}
	}
	if !head.Same(a, b) || !head.Same(b, a) || !head.Good(b) || !bytes.Equal(first(head.Put(a)), first(head.Put(b))) || !head.Same(b.Copy(), a) {
		t.Error("empty lists aren't as nil")
	}
	c := plain()
	c.Snaps = []head.Snap{}
	if !head.Same(c, plain()) || !head.Same(plain(), c) || !head.Good(c) || !bytes.Equal(first(head.Put(c)), first(head.Put(plain()))) || !head.Same(c.Copy(), plain()) || len(c.Context().Snaps) > 0 {
		t.Error("no snapshots aren't as nil")
	}
}
