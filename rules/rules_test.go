package rules_test

import (
	"errors"
	"fmt"
	"math"
	"reflect"
	"slices"
	"strings"
	"testing"

	"lamina/api"
	"lamina/head"
	"lamina/marks"
	"lamina/rules"
)

// plain is the least head.
func plain() head.Head { return head.Head{Object: 16, Owner: -1} }

// full is a head of which nothing is missing, but that nothing is being done with it.
func full() head.Head {
	return head.Head{
		ID: 9, Size: 100, Object: 32, Seq: 6, MapOn: true, MapGood: true, Map: marks.Marks{1, 0, 2, 3}, Link: link("mother", 2, 70), Owner: 5,
		Snaps: []head.Snap{
			{Num: 1, Name: "first", Size: 40},
			{Num: 2, Name: "2nd", Size: 64, Map: marks.Marks{3, 1}, MapOn: true, MapGood: true, Link: link("mother", 2, 64), Protected: true},
			{Num: 4, Name: "last-one", Size: 300, Map: marks.Marks{0, 1, 2, 3, 0, 1, 2, 3, 3, 3}, MapOn: true, Link: link("grandmother", 8, 1), Protected: true, Children: []string{"0", "b", "d"}},
		},
	}
}

func link(parent string, snap, overlap int) head.Link {
	return head.Link{Parent: parent, ParentSnap: snap, Overlap: overlap}
}

// with is a head, changed.
func with(h head.Head, do func(h *head.Head)) head.Head {
	h = tidy(h)
	do(&h)
	return h
}

// doing is full, with which something is being done.
func doing(intent, to int) head.Head {
	return with(full(), func(h *head.Head) { h.Intent, h.To = intent, to })
}

// many is a head with so many snapshots, of the numbers from 1 on.
func many(n int) head.Head {
	h := plain()
	h.Seq = n
	for i := range n {
		h.Snaps = append(h.Snaps, head.Snap{Num: i + 1, Name: fmt.Sprint("s", i+1)})
	}
	return h
}

// marked is a head of so many marks, in objects of 16, with snapshots of as many: each row is one of these, good or not.
func marked(rows ...string) head.Head {
	h := plain()
	h.MapOn = true
	for i, row := range rows {
		on, good := row != "none", !strings.HasSuffix(row, "?")
		m := marks.Marks{}
		for _, c := range strings.TrimSuffix(row, "?") {
			if on {
				m = append(m, byte(strings.IndexRune("-TGC", c)))
			}
		}
		if i == len(rows)-1 {
			h.Size, h.MapOn, h.MapGood, h.Map, h.Seq = 16*len(m), on, on && good, m, i
			break
		}
		h.Snaps = append(h.Snaps, head.Snap{Num: i + 1, Name: fmt.Sprint("s", i+1), Size: 16 * len(m), MapOn: on, MapGood: on && good, Map: m})
	}
	return tidy(h)
}

// tidy is a head of its own memory, in which each empty list is nil.
func tidy(h head.Head) head.Head {
	h.Map = append(marks.Marks(nil), h.Map...)
	h.Snaps = append([]head.Snap(nil), h.Snaps...)
	for i, s := range h.Snaps {
		h.Snaps[i].Map = append(marks.Marks(nil), s.Map...)
		h.Snaps[i].Children = append([]string(nil), s.Children...)
	}
	return h
}

func same(a, b head.Head) bool { return reflect.DeepEqual(tidy(a), tidy(b)) }

// tester tells of answers that aren't those that are asked for.
type tester struct{ *testing.T }

// gives tells of another head than the one that is asked for, and of one that isn't good.
func (t tester) gives(what string, asked head.Head) func(head.Head, error) {
	return func(h head.Head, err error) {
		t.Helper()
		if err != nil || !same(h, asked) || !head.Good(h) {
			t.Errorf("%s: %+v, %v; not %+v", what, h, err, asked)
		}
	}
}

// refuses tells of any answer but the error that is asked for.
func (t tester) refuses(what string, asked api.Errno) func(head.Head, error) {
	return func(h head.Head, err error) {
		t.Helper()
		if !errors.Is(err, asked) || !reflect.DeepEqual(h, head.Head{}) {
			t.Errorf("%s: %+v, %v; not %v", what, h, err, asked)
		}
	}
}

func noNames() []string {
	return []string{"", "A", "a b", "a_b", ".", "\x00", "é", "a\n", strings.Repeat("a", 21), strings.Repeat("0", 1<<12)}
}

func noClients() []int {
	return []int{-1, -2, 8, 9, 64, 256, 1<<32 + 5, math.MaxInt, math.MinInt}
}

// P13.1: the lock

func TestAcquire(t *testing.T) {
	x := tester{t}
	free := with(full(), func(h *head.Head) { h.Owner = -1 })
	for client := range 8 {
		what := fmt.Sprint("client ", client, " acquires")
		mine := with(full(), func(h *head.Head) { h.Owner = client })
		x.gives(what, mine)(rules.Acquire(free, client))
		x.gives(what+" again", mine)(rules.Acquire(mine, client))
		for other := range 8 {
			if other != client {
				x.refuses(fmt.Sprint(what, ", ", other, " owns it"), api.ErrBusy)(rules.Acquire(with(free, func(h *head.Head) { h.Owner = other }), client))
			}
		}
	}
	x.gives("while something is being done", doing(rules.Flatten, 0))(rules.Acquire(with(doing(rules.Flatten, 0), func(h *head.Head) { h.Owner = -1 }), 5))
	x.refuses("the chapter's example", api.ErrBusy)(rules.Acquire(with(plain(), func(h *head.Head) { h.Owner = 3 }), 4))
	for _, client := range noClients() {
		x.refuses(fmt.Sprint("no client: ", client), api.ErrRange)(rules.Acquire(free, client))
		x.refuses(fmt.Sprint("no client, of an owned lock: ", client), api.ErrRange)(rules.Acquire(full(), client))
	}
}

func TestRelease(t *testing.T) {
	x := tester{t}
	for client := range 8 {
		mine := with(full(), func(h *head.Head) { h.Owner = client })
		x.gives(fmt.Sprint("client ", client), with(full(), func(h *head.Head) { h.Owner = -1 }))(rules.Release(mine, client))
		x.refuses(fmt.Sprint("client ", client, " of what is free"), api.ErrLock)(rules.Release(plain(), client))
		for other := range 8 {
			if other != client {
				x.refuses(fmt.Sprint("client ", other, " of what is another one's"), api.ErrLock)(rules.Release(mine, other))
			}
		}
	}
	for intent, to := range []int{0, 30, 4, 1, 0, 0} {
		if intent > 0 {
			x.refuses(fmt.Sprint("something is being done: ", intent), api.ErrBusy)(rules.Release(doing(intent, to), 5))
			x.refuses(fmt.Sprint("something is being done with another one's: ", intent), api.ErrLock)(rules.Release(doing(intent, to), 4))
		}
	}
	for _, client := range noClients() {
		x.refuses(fmt.Sprint("no client: ", client), api.ErrLock)(rules.Release(full(), client))
		x.refuses(fmt.Sprint("no client, of what is free: ", client), api.ErrLock)(rules.Release(plain(), client))
	}
}

func TestBreak(t *testing.T) {
	x := tester{t}
	for client := range 8 {
		for _, h := range []head.Head{plain(), full(), doing(rules.Resize, 9), doing(rules.Remove, 1)} {
			h.Owner = client
			got, who, err := rules.Break(h)
			x.gives(fmt.Sprint("of client ", client), with(h, func(h *head.Head) { h.Owner = -1 }))(got, err)
			if who != client {
				t.Errorf("of client %d: of %d", client, who)
			}
		}
	}
	for what, h := range map[string]head.Head{"of nobody": plain(), "of nobody, a full one": with(full(), func(h *head.Head) { h.Owner = -1 })} {
		got, who, err := rules.Break(h)
		x.refuses(what, api.ErrNone)(got, err)
		if who != 0 {
			t.Errorf("%s: of %d", what, who)
		}
	}
}

func TestOwns(t *testing.T) {
	for _, h := range []head.Head{plain(), full(), doing(rules.Resize, 9)} {
		for owner := -1; owner < 8; owner++ {
			h.Owner = owner
			for _, client := range append(noClients(), 0, 1, 2, 3, 4, 5, 6, 7) {
				err := rules.Owns(h, client)
				if client >= 0 && client == owner {
					if err != nil {
						t.Errorf("client %d owns it: %v", client, err)
					}
				} else if !errors.Is(err, api.ErrLock) {
					t.Errorf("client %d, owned by %d: %v", client, owner, err)
				}
			}
		}
	}
}

// P13.1: snapshots

func TestSnapMake(t *testing.T) {
	x := tester{t}
	x.gives("the first one", with(plain(), func(h *head.Head) { h.Seq, h.Snaps = 1, []head.Snap{{Num: 1, Name: "a"}} }))(rules.SnapMake(plain(), "a"))
	x.gives("one more", with(full(), func(h *head.Head) {
		h.Seq = 7
		h.Snaps = append(h.Snaps, head.Snap{Num: 7, Name: "more", Size: 100, MapOn: true, MapGood: true, Map: marks.Marks{1, 0, 2, 3}, Link: link("mother", 2, 70)})
		h.Map = marks.Marks{3, 0, 2, 3}
	}))(rules.SnapMake(full(), "more"))
	x.gives("of marks that aren't good", with(marked("TC?"), func(h *head.Head) {
		h.Seq, h.Snaps, h.Map = 1, []head.Snap{{Num: 1, Name: "0", Size: 32, MapOn: true, Map: marks.Marks{1, 3}}}, marks.Marks{3, 3}
	}))(rules.SnapMake(marked("TC?"), "0"))
	x.gives("the 16th", with(many(15), func(h *head.Head) { h.Seq, h.Snaps = 16, append(h.Snaps, head.Snap{Num: 16, Name: "-"}) }))(rules.SnapMake(many(15), "-"))
	late := with(plain(), func(h *head.Head) { h.Seq = math.MaxInt - 1 })
	x.gives("of the greatest number", with(plain(), func(h *head.Head) { h.Seq, h.Snaps = math.MaxInt, []head.Snap{{Num: math.MaxInt, Name: "a"}} }))(rules.SnapMake(late, "a"))
	long := strings.Repeat("z", 20)
	x.gives("of a long name", with(plain(), func(h *head.Head) { h.Seq, h.Snaps = 1, []head.Snap{{Num: 1, Name: long}} }))(rules.SnapMake(plain(), long))
}

func TestSnapMakeRefused(t *testing.T) {
	x := tester{t}
	last := with(plain(), func(h *head.Head) { h.Seq = math.MaxInt })
	x.refuses("a name that a snapshot has", api.ErrExists)(rules.SnapMake(full(), "first"))
	x.refuses("a name that the last one has", api.ErrExists)(rules.SnapMake(full(), "last-one"))
	x.refuses("the 17th", api.ErrFull)(rules.SnapMake(many(16), "a"))
	x.refuses("behind the greatest number", api.ErrFull)(rules.SnapMake(last, "a"))
	x.refuses("the 17th of a name that one has", api.ErrExists)(rules.SnapMake(many(16), "s16"))
	for _, name := range noNames() {
		x.refuses(fmt.Sprintf("no name: %.30q", name), api.ErrRange)(rules.SnapMake(full(), name))
		x.refuses(fmt.Sprintf("the 17th of no name: %.30q", name), api.ErrRange)(rules.SnapMake(many(16), name))
		x.refuses(fmt.Sprintf("while something is being done, of no name: %.30q", name), api.ErrBusy)(rules.SnapMake(doing(rules.Flatten, 0), name))
	}
	for intent, to := range []int{0, 30, 4, 1, 0, 0} {
		if intent > 0 {
			x.refuses(fmt.Sprint("something is being done: ", intent), api.ErrBusy)(rules.SnapMake(doing(intent, to), "more"))
			x.refuses(fmt.Sprint("something is being done, and there is one: ", intent), api.ErrBusy)(rules.SnapMake(doing(intent, to), "first"))
		}
	}
}

func TestProtect(t *testing.T) {
	x := tester{t}
	protected := func(h head.Head) head.Head {
		return with(h, func(h *head.Head) { h.Snaps[0].Protected = true })
	}
	for _, h := range []head.Head{full(), doing(rules.Resize, 1), doing(rules.Rollback, 1), doing(rules.Remove, 2), doing(rules.Flatten, 0), doing(rules.Delete, 0), many(16)} {
		x.gives("the first one", protected(h))(rules.Protect(h, h.Snaps[0].Name))
		x.refuses("the first one again", api.ErrProtected)(rules.Protect(protected(h), h.Snaps[0].Name))
	}
	x.refuses("what is being removed", api.ErrBusy)(rules.Protect(doing(rules.Remove, 1), "first"))
	x.refuses("what is being removed, and protected", api.ErrBusy)(rules.Protect(doing(rules.Remove, 2), "2nd"))
	x.refuses("while another one is being removed", api.ErrProtected)(rules.Protect(doing(rules.Remove, 1), "2nd"))
	x.refuses("while it is being brought back to it", api.ErrProtected)(rules.Protect(doing(rules.Rollback, 2), "2nd"))
	x.refuses("that has children", api.ErrProtected)(rules.Protect(full(), "last-one"))
	for _, name := range append(noNames(), "firs", "first-", "mother", "1") {
		x.refuses(fmt.Sprintf("no snapshot: %.30q", name), api.ErrNone)(rules.Protect(full(), name))
		x.refuses(fmt.Sprintf("none at all: %.30q", name), api.ErrNone)(rules.Protect(plain(), name))
		x.refuses(fmt.Sprintf("while one is being removed: %.30q", name), api.ErrNone)(rules.Protect(doing(rules.Remove, 1), name))
	}
}

func TestUnprotect(t *testing.T) {
	x := tester{t}
	for _, h := range []head.Head{full(), doing(rules.Resize, 1), doing(rules.Rollback, 2), doing(rules.Remove, 2), doing(rules.Delete, 0)} {
		x.gives("the second one", with(h, func(h *head.Head) { h.Snaps[1].Protected = false }))(rules.Unprotect(h, "2nd"))
		x.refuses("that isn't protected", api.ErrState)(rules.Unprotect(h, "first"))
		x.refuses("that has children", api.ErrBusy)(rules.Unprotect(h, "last-one"))
	}
	one := with(full(), func(h *head.Head) { h.Snaps[2].Children = []string{"x"} })
	x.refuses("that has a child", api.ErrBusy)(rules.Unprotect(one, "last-one"))
	for _, name := range append(noNames(), "firs", "2nd-", "b") {
		x.refuses(fmt.Sprintf("no snapshot: %.30q", name), api.ErrNone)(rules.Unprotect(full(), name))
		x.refuses(fmt.Sprintf("none at all: %.30q", name), api.ErrNone)(rules.Unprotect(plain(), name))
	}
}

func TestAddChild(t *testing.T) {
	x := tester{t}
	for child, asked := range map[string][]string{
		"-": {"-", "0", "b", "d"}, "1": {"0", "1", "b", "d"}, "a": {"0", "a", "b", "d"}, "b-": {"0", "b", "b-", "d"}, "bb": {"0", "b", "bb", "d"}, "c": {"0", "b", "c", "d"}, "d0": {"0", "b", "d", "d0"}, "zz": {"0", "b", "d", "zz"},
	} {
		for _, h := range []head.Head{full(), doing(rules.Resize, 1), doing(rules.Delete, 0), doing(rules.Remove, 4)} {
			x.gives("child "+child, with(h, func(h *head.Head) { h.Snaps[2].Children = asked }))(rules.AddChild(h, "last-one", child))
		}
		x.gives("a first child "+child, with(full(), func(h *head.Head) { h.Snaps[1].Children = []string{child} }))(rules.AddChild(full(), "2nd", child))
		x.refuses("not protected: "+child, api.ErrState)(rules.AddChild(full(), "first", child))
		x.refuses("no snapshot: "+child, api.ErrNone)(rules.AddChild(full(), "second", child))
		x.refuses("none at all: "+child, api.ErrNone)(rules.AddChild(plain(), "first", child))
	}
	for _, child := range []string{"0", "b", "d"} {
		x.refuses("it has "+child, api.ErrExists)(rules.AddChild(full(), "last-one", child))
	}
	for _, child := range noNames() {
		x.refuses(fmt.Sprintf("no name: %.30q", child), api.ErrRange)(rules.AddChild(full(), "last-one", child))
		x.refuses(fmt.Sprintf("no name, not protected: %.30q", child), api.ErrRange)(rules.AddChild(full(), "first", child))
		x.refuses(fmt.Sprintf("no name, no snapshot: %.30q", child), api.ErrNone)(rules.AddChild(full(), child, child))
	}
}

func TestManyChildren(t *testing.T) {
	h := with(full(), func(h *head.Head) { h.Snaps[1].Children = nil })
	var asked []string
	for i := range 500 {
		child := fmt.Sprintf("c%d", i*389%500)
		asked = append(asked, child)
		var err error
		if h, err = rules.AddChild(h, "2nd", child); err != nil || !head.Good(h) {
			t.Fatal(child, err)
		}
	}
	slices.Sort(asked)
	tester{t}.gives("500 children", with(full(), func(h *head.Head) { h.Snaps[1].Children = asked }))(h, nil)
	for _, child := range asked {
		var err error
		if h, err = rules.DropChild(h, 2, child); err != nil || !head.Good(h) {
			t.Fatal(child, err)
		}
	}
	tester{t}.gives("no child", full())(h, nil)
}

func TestDropChild(t *testing.T) {
	x := tester{t}
	for child, asked := range map[string][]string{"0": {"b", "d"}, "b": {"0", "d"}, "d": {"0", "b"}} {
		for _, h := range []head.Head{full(), doing(rules.Resize, 1), doing(rules.Delete, 0), doing(rules.Remove, 4)} {
			x.gives("child "+child, with(h, func(h *head.Head) { h.Snaps[2].Children = asked }))(rules.DropChild(h, 4, child))
		}
		x.refuses("not its child "+child, api.ErrNone)(rules.DropChild(full(), 2, child))
		for _, num := range []int{0, -1, 3, 5, 6, 7, math.MaxInt, math.MinInt} {
			x.refuses(fmt.Sprint("no snapshot ", num), api.ErrNone)(rules.DropChild(full(), num, child))
		}
	}
	one := with(full(), func(h *head.Head) { h.Snaps[1].Children = []string{"x"} })
	x.gives("the only child", full())(rules.DropChild(one, 2, "x"))
	for _, child := range append(noNames(), "-", "a", "bb", "c", "z", "last-one") {
		for num := range 5 {
			x.refuses(fmt.Sprintf("no child: %.30q", child), api.ErrNone)(rules.DropChild(full(), num, child))
		}
	}
}

// P13.1: the size

func TestGrow(t *testing.T) {
	x := tester{t}
	for size, asked := range map[int]marks.Marks{100: {1, 0, 2, 3}, 101: {1, 0, 2, 3}, 128: {1, 0, 2, 3}, 129: {1, 0, 2, 3, 0}, 161: {1, 0, 2, 3, 0, 0}, 4096: append(marks.Marks{1, 0, 2, 3}, make(marks.Marks, 124)...)} {
		x.gives(fmt.Sprint("to ", size), with(full(), func(h *head.Head) { h.Size, h.Map = size, asked }))(rules.Grow(full(), size))
	}
	for _, size := range []int{0, 1, 16, 4095, 4096} {
		x.gives(fmt.Sprint("without marks to ", size), with(plain(), func(h *head.Head) { h.Size = size }))(rules.Grow(plain(), size))
	}
	x.gives("marks that aren't good", marked("TGC--?"))(rules.Grow(marked("TGC?"), 80))
	x.gives("no marks to all", with(marked(""), func(h *head.Head) { h.Size, h.Map = 4096, make(marks.Marks, 256) }))(rules.Grow(marked(""), 4096))
	for _, size := range []int{99, 0, -1, 4097, 1<<32 + 100, math.MaxInt, math.MinInt} {
		x.refuses(fmt.Sprint("to ", size), api.ErrRange)(rules.Grow(full(), size))
		x.refuses(fmt.Sprint("while something is being done, to ", size), api.ErrBusy)(rules.Grow(doing(rules.Flatten, 0), size))
	}
	for intent, to := range []int{0, 30, 4, 1, 0, 0} {
		if intent > 0 {
			x.refuses(fmt.Sprint("something is being done: ", intent), api.ErrBusy)(rules.Grow(doing(intent, to), 200))
		}
	}
}
