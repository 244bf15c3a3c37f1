package snap_test

import (
	"bytes"
	"errors"
	"fmt"
	"math"
	"slices"
	"strings"
	"testing"

	"lamina/api"
	"lamina/snap"
)

func want(t *testing.T, what string, got, asked error) {
	t.Helper()
	if !errors.Is(got, asked) {
		t.Errorf("%s: %v, not %v", what, got, asked)
	}
}

// object is an object whose head is there.
func object(head string, seq int, clones ...snap.Clone) snap.Object {
	return snap.Object{There: true, Data: []byte(head), Seq: seq, Clones: clones}
}

// absent is an object whose head isn't there.
func absent(seq int, clones ...snap.Clone) snap.Object {
	return snap.Object{Seq: seq, Clones: clones}
}

func clone(data string, snaps ...int) snap.Clone {
	return snap.Clone{Snaps: snaps, Data: []byte(data)}
}

// clones is n clones, of the snapshots 1 to n.
func clones(n int) []snap.Clone {
	var l []snap.Clone
	for i := range n {
		l = append(l, clone("c", i+1))
	}
	return l
}

func context(seq int, snaps ...int) api.Context { return api.Context{Seq: seq, Snaps: snaps} }

// show is an object as one line: the head (- if it isn't there), Seq, and the clones.
func show(o snap.Object) string {
	s := "-"
	if o.There || len(o.Data) > 0 {
		s = fmt.Sprintf("%q", o.Data)
	}
	if !o.There && len(o.Data) > 0 {
		s = "not there, but " + s
	}
	s += fmt.Sprintf(" %d", o.Seq)
	for _, c := range o.Clones {
		s += fmt.Sprintf(" %v%q", c.Snaps, c.Data)
	}
	return s
}

// is holds a call's answer against an object.
func is(t *testing.T, what string, got snap.Object, err error, asked snap.Object) {
	t.Helper()
	if err != nil || show(got) != show(asked) || !snap.Good(got) {
		t.Errorf("%s: %s, %v; not %s", what, show(got), err, show(asked))
	}
}

// refuses holds a call's answer against an error; no object is beside it.
func refuses(t *testing.T, what string, got snap.Object, err error, asked error) {
	t.Helper()
	if want(t, what, err, asked); got.There || got.Data != nil || got.Seq != 0 || got.Clones != nil {
		t.Errorf("%s: it answers %s beside its error", what, show(got))
	}
}

func x(n int) string { return strings.Repeat("x", n) }

func noughts(n int) string { return strings.Repeat("\x00", n) }

// goodOnes are good objects of all sorts.
func goodOnes() []snap.Object {
	return []snap.Object{
		{}, absent(7), absent(math.MaxInt), object("", 0), object("a", 0), object(x(256), 3), object(x(16), math.MaxInt, clone("", math.MaxInt)),
		absent(1, clone("", 1)), absent(4, clone("a", 1)), object("b", 5, clone("a", 1, 2, 4), clone(x(256), 5)),
		object("b", 9, clone("a", 2), clone("", 3, 4), clone("c", 8)), object("b", 16, clones(16)...), absent(17, clones(16)...),
		object("many", 20, clone("m", 1, 2, 3, 4, 5, 6, 7, 8, 9, 10, 11, 12, 13, 14, 15, 16, 17, 18)),
	}
}

// badOnes are objects that aren't good, each for one reason.
func badOnes() []snap.Object {
	return []snap.Object{
		{Data: []byte("a")}, object(x(257), 0), {Data: []byte(x(257))}, absent(-1), object("", math.MinInt),
		object("", 3, clone("a")), absent(3, clone("a", 1), clone("b")), absent(3, clone("a"), clone("b", 1)),
		object("", 3, clone(x(257), 1)), object("", 3, clone("a", 1), clone(x(257), 2)),
		object("", 3, clone("a", 0)), object("", 3, clone("a", 0, 1)), object("", 3, clone("a", -1)), object("", 3, clone("a", math.MinInt, 2)),
		object("", 3, clone("a", 4)), object("", 3, clone("a", 1, 4)), object("", 0, clone("a", 1)), object("", 3, clone("a", 1), clone("b", math.MaxInt)),
		object("", 3, clone("a", 2, 1)), object("", 3, clone("a", 1, 1)), object("", 5, clone("a", 1, 5, 2)),
		object("", 3, clone("a", 1), clone("b", 1)), object("", 3, clone("a", 2), clone("b", 1)), object("", 3, clone("a", 1, 3), clone("b", 2)),
		object("", 3, clone("a", 1, 3), clone("b", 3)), object("", 9, clone("a", 1), clone("b", 3), clone("c", 2)),
		object("", 17, clones(17)...), absent(20, clones(18)...),
	}
}

// P9.1: Good

func TestGood(t *testing.T) {
	for _, o := range goodOnes() {
		if !snap.Good(o) {
			t.Errorf("%s isn't good", show(o))
		}
	}
	for _, o := range badOnes() {
		if snap.Good(o) {
			t.Errorf("%s is good", show(o))
		}
	}
}

// P9.1: At

func TestAt(t *testing.T) {
	here := object("head", 9, clone("a", 2), clone("", 3, 5), clone("c", 8))
	gone := absent(9, here.Clones...)
	for _, row := range []struct {
		o    snap.Object
		s    int
		data string
	}{
		{here, 0, "head"}, {here, 1, "-"}, {here, 2, "a"}, {here, 3, ""}, {here, 4, "-"}, {here, 5, ""}, {here, 6, "-"},
		{here, 7, "-"}, {here, 8, "c"}, {here, 9, "-"}, {here, 10, "head"}, {here, math.MaxInt, "head"}, {here, -1, "-"}, {here, math.MinInt, "-"},
		{gone, 0, "-"}, {gone, 2, "a"}, {gone, 5, ""}, {gone, 9, "-"}, {gone, 10, "-"}, {gone, -1, "-"},
		{snap.Object{}, 0, "-"}, {snap.Object{}, 1, "-"}, {object("", 0), 0, ""}, {object("", 0), 1, ""}, {object("", 1), 1, "-"},
		{object("h", 0), -1, "-"}, {object("h", 0), math.MinInt, "-"}, {object("h", math.MaxInt), math.MaxInt, "-"}, {object(x(256), 3), 4, x(256)},
	} {
		data, there := snap.At(row.o, row.s)
		if there != (row.data != "-") || there && string(data) != row.data || !there && data != nil {
			t.Errorf("At(%s, %d): %q, %v; not %q", show(row.o), row.s, data, there, row.data)
		}
	}
}

func TestAtOfBadObjects(t *testing.T) {
	for _, o := range badOnes() {
		for _, s := range []int{-1, 0, 1, 2, 3, 5, 9, math.MaxInt} {
			if data, there := snap.At(o, s); data != nil || there {
				t.Errorf("At(%s, %d): %q, %v", show(o), s, data, there)
			}
		}
	}
}

// calls are the calls with a context, with arguments that suit each context that has snapshot 1 and an object that is there.
func calls() map[string]func(snap.Object, api.Context) (snap.Object, error) {
	return map[string]func(snap.Object, api.Context) (snap.Object, error){
		"Write": func(o snap.Object, c api.Context) (snap.Object, error) { return snap.Write(o, c, 0, []byte("w")) },
		"Zero":  func(o snap.Object, c api.Context) (snap.Object, error) { return snap.Zero(o, c, 0, 1) },
		"Cut":   func(o snap.Object, c api.Context) (snap.Object, error) { return snap.Cut(o, c, 1) },
		"Drop":  snap.Drop,
		"Back":  func(o snap.Object, c api.Context) (snap.Object, error) { return snap.Back(o, c, 1) },
	}
}

// P9.1: what all calls refuse

func TestBadObjects(t *testing.T) {
	for _, o := range badOnes() {
		for name, call := range calls() {
			for _, c := range []api.Context{context(1, 1), context(math.MaxInt, 1), context(-1), context(1, 2)} {
				got, err := call(o, c)
				refuses(t, name+" of "+show(o), got, err, api.ErrForm)
			}
		}
		for _, s := range []int{-1, 0, 1} {
			got, err := snap.Trim(o, s)
			refuses(t, "Trim of "+show(o), got, err, api.ErrForm)
		}
		b, err := snap.Put(o)
		if want(t, "Put of "+show(o), err, api.ErrForm); b != nil {
			t.Errorf("Put of %s answers %q beside its error", show(o), b)
		}
	}
	bad := object(x(257), 0)
	got, err := snap.Write(bad, context(0), -1, nil)
	refuses(t, "Write at -1", got, err, api.ErrForm)
	got, err = snap.Zero(bad, context(0), -1, -1)
	refuses(t, "Zero at -1", got, err, api.ErrForm)
	got, err = snap.Zero(snap.Object{Data: []byte("a")}, context(0), 0, 1)
	refuses(t, "Zero without a head", got, err, api.ErrForm)
	got, err = snap.Cut(bad, context(0), -1)
	refuses(t, "Cut to -1", got, err, api.ErrForm)
	got, err = snap.Back(bad, context(0), 1)
	refuses(t, "Back to no snapshot", got, err, api.ErrForm)
}

func TestBadContexts(t *testing.T) {
	many := []int{17, 16, 15, 14, 13, 12, 11, 10, 9, 8, 7, 6, 5, 4, 3, 2, 1}
	for name, call := range calls() {
		for _, c := range []api.Context{
			context(-1), context(-1, 1), context(math.MinInt), context(0, 1), context(2, 3, 1), context(5, 1, 2), context(5, 4, 1, 2), context(5, 2, 2, 1), context(5, 2, 1, 1),
			context(5, 1, 0), context(5, 1, -1), context(5, 1, math.MinInt), context(5, math.MaxInt, 1), context(17, many...), context(99, many...),
		} {
			for _, o := range []snap.Object{object("ab", 0), {}} {
				got, err := call(o, c)
				refuses(t, fmt.Sprint(name, c), got, err, api.ErrRange)
			}
		}
		for _, c := range []api.Context{context(0), context(3, 1), context(3, 3, 2, 1)} {
			got, err := call(object("ab", 4, clone("a", 1)), c)
			refuses(t, fmt.Sprint(name, " below the object's", c), got, err, api.ErrRange)
			got, err = call(absent(4), c)
			refuses(t, fmt.Sprint(name, " below the object's", c), got, err, api.ErrRange)
		}
		for _, c := range []api.Context{context(1, 1), context(9, 1), context(16, many[1:]...), context(99, many[1:]...), context(math.MaxInt, math.MaxInt, 1)} {
			if got, err := call(object("ab", 0), c); err != nil || got.Seq != c.Seq {
				t.Errorf("%s %v: %s, %v", name, c, show(got), err)
			}
		}
	}
	// Without snapshots there is none to go back to, but all else is done.
	got, err := snap.Drop(object("ab", 0), context(0))
	is(t, "Drop", got, err, absent(0))
	got, err = snap.Drop(object("ab", 4), context(4))
	is(t, "Drop", got, err, absent(4))
}

// P9.1: before it changes

func TestBeforeItChanges(t *testing.T) {
	for _, row := range []struct {
		o       snap.Object
		c       api.Context
		changed snap.Object
	}{
		{object("ab", 0), context(0), absent(0)},
		{object("ab", 0), context(5), absent(5)},
		{object("ab", 0), context(5, 4, 3, 1), absent(5, clone("ab", 1, 3, 4))},
		{object("ab", 0), context(5, 5), absent(5, clone("ab", 5))},
		{object("", 0), context(1, 1), absent(1, clone("", 1))},
		{object("ab", 3), context(5, 5, 4, 3, 1), absent(5, clone("ab", 4, 5))},
		{object("ab", 3), context(5, 3, 2), absent(5)},
		{object("ab", 3), context(5), absent(5)},
		{object("ab", 5), context(5, 5, 4), absent(5)},
		{object("ab", 3, clone("c", 1), clone("d", 3)), context(5, 4, 3, 1), absent(5, clone("c", 1), clone("d", 3), clone("ab", 4))},
		{object("ab", 3, clone("c", 1), clone("d", 3)), context(4), absent(4, clone("c", 1), clone("d", 3))},
		{absent(3, clone("c", 1)), context(5, 5, 4), absent(5, clone("c", 1))},
		{absent(0), context(5, 5, 4), absent(5)},
		{absent(3), context(3, 2), absent(3)},
		{object(x(256), 0), context(math.MaxInt, math.MaxInt, 1), absent(math.MaxInt, clone(x(256), 1, math.MaxInt))},
	} {
		got, err := snap.Drop(row.o, row.c)
		is(t, fmt.Sprint("Drop of ", show(row.o), row.c), got, err, row.changed)
	}
}

// Each call keeps the head for the snapshots that are new, also one that changes nothing else.
func TestEachCallKeepsTheHead(t *testing.T) {
	o, c := object("ab", 3, clone("old", 1)), context(7, 6, 5, 3, 1)
	kept := []snap.Clone{clone("old", 1), clone("ab", 5, 6)}
	got, err := snap.Write(o, c, 1, []byte("W"))
	is(t, "Write", got, err, object("aW", 7, kept...))
	got, err = snap.Write(o, c, 0, nil)
	is(t, "Write of nothing", got, err, object("ab", 7, kept...))
	got, err = snap.Zero(o, c, 1, 1)
	is(t, "Zero", got, err, object("a\x00", 7, kept...))
	got, err = snap.Zero(o, c, 0, 0)
	is(t, "Zero of nothing", got, err, object("ab", 7, kept...))
	got, err = snap.Cut(o, c, 1)
	is(t, "Cut", got, err, object("a", 7, kept...))
	got, err = snap.Cut(o, c, 2)
	is(t, "Cut of nothing", got, err, object("ab", 7, kept...))
	got, err = snap.Back(o, c, 1)
	is(t, "Back", got, err, object("old", 7, kept...))
	got, err = snap.Back(o, c, 6)
	is(t, "Back to what it is", got, err, object("ab", 7, kept...))
	got, err = snap.Drop(absent(3, clone("old", 1)), c)
	is(t, "Drop of nothing", got, err, absent(7, clone("old", 1)))
}

func TestMoreClones(t *testing.T) {
	full, most := object("ab", 20, clones(16)...), object("ab", 20, clones(15)...)
	for name, call := range calls() {
		got, err := call(full, context(21, 21, 1))
		refuses(t, name+" in a 17th clone", got, err, api.ErrRange)
		if got, err = call(most, context(21, 21, 1)); err != nil || len(got.Clones) != 16 || !snap.Good(got) {
			t.Errorf("%s in a 16th clone: %s, %v", name, show(got), err)
		}
		// None is made, if the object has seen all of the snapshots.
		if got, err = call(full, context(20, 20, 1)); err != nil || len(got.Clones) != 16 || got.Seq != 20 {
			t.Errorf("%s in no new clone: %s, %v", name, show(got), err)
		}
		if got, err = call(full, context(30, 19, 1)); err != nil || len(got.Clones) != 16 || got.Seq != 30 {
			t.Errorf("%s without a new snapshot: %s, %v", name, show(got), err)
		}
	}
	gone := absent(20, clones(16)...)
	got, err := snap.Write(gone, context(21, 21), 0, []byte("w"))
	is(t, "Write without a head", got, err, object("w", 21, clones(16)...))
	got, err = snap.Zero(gone, context(21, 21), 0, 1)
	refuses(t, "Zero without a head", got, err, api.ErrNone)
	if full, err = snap.Trim(full, 16); err != nil {
		t.Fatal(err)
	}
	got, err = snap.Cut(full, context(21, 21), 1)
	is(t, "Cut behind a trim", got, err, object("a", 21, append(clones(15), clone("ab", 21))...))
}

// P9.1: Write

func TestWrite(t *testing.T) {
	for _, row := range []struct {
		head string
		at   int
		data string
		gets string
	}{
		{"-", 0, "", ""}, {"-", 0, "ab", "ab"}, {"-", 2, "ab", "\x00\x00ab"}, {"-", 3, "", noughts(3)}, {"-", 256, "", noughts(256)},
		{"-", 0, x(256), x(256)}, {"-", 255, "z", noughts(255) + "z"}, {"", 1, "b", "\x00b"},
		{"abcd", 0, "", "abcd"}, {"abcd", 1, "XY", "aXYd"}, {"abcd", 3, "XY", "abcXY"}, {"abcd", 4, "XY", "abcdXY"}, {"abcd", 6, "XY", "abcd\x00\x00XY"},
		{"abcd", 0, "WXYZ", "WXYZ"}, {"abcd", 0, "VWXYZ", "VWXYZ"}, {"abcd", 4, "", "abcd"}, {"abcd", 6, "", "abcd\x00\x00"}, {"abcd", 2, "", "abcd"},
		{x(256), 0, "a", "a" + x(255)}, {x(256), 255, "a", x(255) + "a"}, {x(256), 256, "", x(256)}, {"abcd", 4, x(252), "abcd" + x(252)},
	} {
		o := object(row.head, 2, clone("c", 1))
		if row.head == "-" {
			o = absent(2, clone("c", 1))
		}
		got, err := snap.Write(o, context(2, 1), row.at, []byte(row.data))
		is(t, fmt.Sprintf("Write(%q, %d, %q)", row.head, row.at, row.data), got, err, object(row.gets, 2, clone("c", 1)))
	}
}

func TestWriteRange(t *testing.T) {
	for _, o := range []snap.Object{{}, object("a", 0)} {
		for _, row := range []struct{ at, n int }{
			{-1, 0}, {-1, 1}, {-1, 2}, {math.MinInt, 0}, {math.MinInt, 3}, {257, 0}, {256, 1}, {255, 2}, {0, 257}, {1, 256}, {0, 1 << 17},
			{math.MaxInt, 0}, {math.MaxInt, 1}, {math.MaxInt, 256}, {math.MaxInt - 255, 256}, {-1, 257},
		} {
			got, err := snap.Write(o, context(1, 1), row.at, make([]byte, row.n))
			refuses(t, fmt.Sprint("Write ", row), got, err, api.ErrRange)
		}
	}
}

// P9.1: Zero

func TestZero(t *testing.T) {
	for _, row := range []struct {
		head  string
		at, n int
		gets  string
	}{
		{"abcd", 0, 0, "abcd"}, {"abcd", 0, 1, "\x00bcd"}, {"abcd", 1, 2, "a\x00\x00d"}, {"abcd", 3, 1, "abc\x00"}, {"abcd", 3, 2, "abc\x00"},
		{"abcd", 0, 4, noughts(4)}, {"abcd", 0, math.MaxInt, noughts(4)}, {"abcd", 1, math.MaxInt, "a\x00\x00\x00"}, {"abcd", 4, 1, "abcd"}, {"abcd", 5, 9, "abcd"},
		{"abcd", math.MaxInt, math.MaxInt, "abcd"}, {"abcd", math.MaxInt, 1, "abcd"}, {"abcd", 300, 300, "abcd"}, {"", 0, 9, ""}, {x(256), 255, 9, x(255) + "\x00"},
	} {
		got, err := snap.Zero(object(row.head, 2, clone("c", 1)), context(2, 1), row.at, row.n)
		is(t, fmt.Sprintf("Zero(%q, %d, %d)", row.head, row.at, row.n), got, err, object(row.gets, 2, clone("c", 1)))
	}
	for _, o := range []snap.Object{{}, object("a", 0)} {
		for _, row := range []struct{ at, n int }{{-1, 0}, {-1, 1}, {0, -1}, {-1, -1}, {math.MinInt, 1}, {1, math.MinInt}, {math.MaxInt, -1}} {
			got, err := snap.Zero(o, context(1, 1), row.at, row.n)
			refuses(t, fmt.Sprint("Zero ", row), got, err, api.ErrRange)
		}
	}
	for _, row := range []struct{ at, n int }{{0, 0}, {0, 1}, {5, 5}, {math.MaxInt, math.MaxInt}} {
		got, err := snap.Zero(absent(1, clone("c", 1)), context(2, 2), row.at, row.n)
		refuses(t, fmt.Sprint("Zero without a head ", row), got, err, api.ErrNone)
	}
}

// P9.1: Cut

func TestCut(t *testing.T) {
	for _, row := range []struct {
		head string
		n    int
		gets string
	}{
		{"abcd", 0, ""}, {"abcd", 1, "a"}, {"abcd", 3, "abc"}, {"abcd", 4, "abcd"}, {"abcd", 5, "abcd"}, {"abcd", 256, "abcd"},
		{"", 0, ""}, {"", 9, ""}, {x(256), 255, x(255)}, {x(256), 256, x(256)},
	} {
		got, err := snap.Cut(object(row.head, 2, clone("cccccc", 1)), context(2, 1), row.n)
		is(t, fmt.Sprintf("Cut(%q, %d)", row.head, row.n), got, err, object(row.gets, 2, clone("cccccc", 1)))
	}
	for _, n := range []int{-1, 257, math.MinInt, math.MaxInt} {
		for _, o := range []snap.Object{{}, object("a", 0)} {
			got, err := snap.Cut(o, context(1, 1), n)
			refuses(t, fmt.Sprint("Cut ", n), got, err, api.ErrRange)
		}
	}
	for _, n := range []int{0, 1, 256} {
		got, err := snap.Cut(absent(1, clone("c", 1)), context(2, 2), n)
		refuses(t, fmt.Sprint("Cut without a head ", n), got, err, api.ErrNone)
	}
}

// What was cut off doesn't come back, when the head grows again.
func TestCutAndWrite(t *testing.T) {
	o, err := snap.Cut(object("abcdef", 0), context(0), 2)
	is(t, "Cut", o, err, object("ab", 0))
	o, err = snap.Write(o, context(0), 4, []byte("X"))
	is(t, "Write behind it", o, err, object("ab\x00\x00X", 0))
	o, err = snap.Drop(o, context(0))
	is(t, "Drop", o, err, absent(0))
	o, err = snap.Write(o, context(0), 3, nil)
	is(t, "Write behind it", o, err, object(noughts(3), 0))
}

// P9.1: Drop

func TestDrop(t *testing.T) {
	for _, o := range []snap.Object{object("abcd", 2, clone("c", 1)), object("", 2, clone("c", 1)), absent(2, clone("c", 1))} {
		got, err := snap.Drop(o, context(2, 1))
		is(t, "Drop of "+show(o), got, err, absent(2, clone("c", 1)))
	}
}

// P9.1: Back

func TestBack(t *testing.T) {
	list := []snap.Clone{clone("a", 2), clone("", 3, 5), clone(x(256), 8)}
	here, gone := object("head", 9, list...), absent(9, list...)
	c := context(12, 12, 11, 9, 8, 6, 5, 3, 2, 1)
	kept := append(slices.Clone(list), clone("head", 11, 12))
	for _, row := range []struct {
		o    snap.Object
		s    int
		gets snap.Object
	}{
		{here, 1, absent(12, kept...)}, {here, 2, object("a", 12, kept...)}, {here, 3, object("", 12, kept...)}, {here, 5, object("", 12, kept...)},
		{here, 6, absent(12, kept...)}, {here, 8, object(x(256), 12, kept...)}, {here, 9, absent(12, kept...)}, {here, 11, object("head", 12, kept...)},
		{here, 12, object("head", 12, kept...)}, {gone, 1, absent(12, list...)}, {gone, 2, object("a", 12, list...)}, {gone, 8, object(x(256), 12, list...)},
		{gone, 9, absent(12, list...)}, {gone, 12, absent(12, list...)},
	} {
		got, err := snap.Back(row.o, c, row.s)
		is(t, fmt.Sprintf("Back(%s, %d)", show(row.o), row.s), got, err, row.gets)
	}
	got, err := snap.Back(here, context(9, 9, 2), 2)
	is(t, "Back without a new snapshot", got, err, object("a", 9, list...))
	for _, s := range []int{0, -1, 3, 4, 7, 10, 12, 13, math.MinInt, math.MaxInt} {
		for _, o := range []snap.Object{here, gone} {
			got, err := snap.Back(o, context(12, 11, 9, 8, 5, 2), s)
			refuses(t, fmt.Sprint("Back ", s), got, err, api.ErrRange)
		}
	}
	got, err = snap.Back(object("head", 0), context(0), 0)
	refuses(t, "Back to 0", got, err, api.ErrRange)
}

// P9.1: Trim

func TestTrim(t *testing.T) {
	list := []snap.Clone{clone("a", 2), clone("b", 3, 5, 6), clone("c", 8)}
	for _, row := range []struct {
		s    int
		gets []snap.Clone
	}{
		{1, list}, {2, list[1:]}, {3, []snap.Clone{list[0], clone("b", 5, 6), list[2]}}, {4, list}, {5, []snap.Clone{list[0], clone("b", 3, 6), list[2]}},
		{6, []snap.Clone{list[0], clone("b", 3, 5), list[2]}}, {7, list}, {8, list[:2]}, {9, list}, {10, list}, {math.MaxInt, list},
	} {
		got, err := snap.Trim(object("head", 9, list...), row.s)
		is(t, fmt.Sprint("Trim ", row.s), got, err, object("head", 9, row.gets...))
		got, err = snap.Trim(absent(9, list...), row.s)
		is(t, fmt.Sprint("Trim ", row.s), got, err, absent(9, row.gets...))
	}
	got, err := snap.Trim(absent(9, clone("a", 4)), 4)
	is(t, "Trim of the last snapshot", got, err, absent(9))
	for _, s := range []int{0, -1, math.MinInt} {
		got, err := snap.Trim(object("head", 9, list...), s)
		refuses(t, fmt.Sprint("Trim ", s), got, err, api.ErrRange)
		got, err = snap.Trim(snap.Object{}, s)
		refuses(t, fmt.Sprint("Trim ", s), got, err, api.ErrRange)
	}
}

// P9.1: Empty

func TestEmpty(t *testing.T) {
	// The last ones aren't good, but nothing is left of them.
	for _, o := range []snap.Object{{}, absent(5), {Data: []byte{}, Clones: []snap.Clone{}}, absent(-1), {Data: []byte("a")}} {
		if !snap.Empty(o) {
			t.Errorf("%s isn't empty", show(o))
		}
	}
	for _, o := range []snap.Object{object("", 0), object("a", 5), absent(5, clone("", 1)), object("a", 5, clone("b", 5)), object(x(300), -1), absent(0, clone("a"))} {
		if snap.Empty(o) {
			t.Errorf("%s is empty", show(o))
		}
	}
}

// num is a number's bytes, and counted bytes with their number ahead.

func num(n int) string {
	var b [8]byte
	for i := range b {
		b[i] = byte(uint64(n) >> (8 * i))
	}
	return string(b[:])
}

func counted(b string) string { return num(len(b)) + b }

// text is an object's text by hand.
func text(o snap.Object) string {
	s := map[bool]string{false: "\x00", true: "\x01"}[o.There] + counted(string(o.Data)) + num(o.Seq) + num(len(o.Clones))
	for _, c := range o.Clones {
		s += num(len(c.Snaps))
		for _, n := range c.Snaps {
			s += num(n)
		}
		s += counted(string(c.Data))
	}
	return s
}

// P9.1, P9.3: Put and Take

func TestPutAndTake(t *testing.T) {
	for _, o := range goodOnes() {
		b, err := snap.Put(o)
		if err != nil || string(b) != text(o) {
			t.Errorf("Put(%s): %q, %v; not %q", show(o), b, err, text(o))
		}
		got, err := snap.Take([]byte(text(o)))
		is(t, "Take of "+show(o), got, err, o)
	}
}

func TestTakeRefuses(t *testing.T) {
	list := []string{
		"", "\x00", "\x02" + text(snap.Object{})[1:], "\xff" + text(object("a", 1))[1:], x(40),
		"\x00" + counted("") + num(0) + num(-1), "\x00" + counted("") + num(0) + num(math.MinInt), "\x00" + counted("") + num(0) + num(math.MaxInt),
		"\x00" + counted("") + num(5) + num(1) + num(-1) + counted(""), "\x00" + counted("") + num(5) + num(1) + num(1) + num(1) + num(-1),
		"\x00" + counted("") + num(5) + num(1<<40) + num(1) + num(1) + counted("a"), "\x00" + num(-1) + num(0) + num(0), "\x00" + num(1<<62) + num(0) + num(0),
		text(snap.Object{}) + num(1) + num(1) + counted("a"), text(object("b", 16, clones(16)...)) + num(1) + num(17) + counted("a"),
	}
	for _, o := range badOnes() {
		list = append(list, text(o))
	}
	for _, o := range goodOnes() {
		s := text(o)
		for i := range s {
			list = append(list, s[:i])
		}
		list = append(list, s+"\x00", s+"\x01", s+s, s[1:], "\x00"+s)
	}
	for _, s := range list {
		got, err := snap.Take([]byte(s))
		refuses(t, fmt.Sprintf("Take(%q)", s), got, err, api.ErrForm)
	}
}

// A text that was changed is refused, or another good object's.
func TestTakeOfChangedTexts(t *testing.T) {
	taken := 0
	for _, o := range goodOnes() {
		s := text(o)
		for i := range s {
			for _, c := range []byte{0, 1, 2, 3, 5, 8, 16, 17, 128, 255} {
				b := []byte(s)
				b[i] = c
				got, err := snap.Take(b)
				if err == nil {
					if taken++; !snap.Good(got) || text(got) != string(b) {
						t.Errorf("Take(%q): %s", b, show(got))
					}
					continue
				}
				refuses(t, fmt.Sprintf("Take(%q)", b), got, err, api.ErrForm)
			}
		}
	}
	if taken < 1000 {
		t.Errorf("%d texts are taken: too few", taken)
	}
}

// The chapter's example.
func TestExample(t *testing.T) {
	o, err := snap.Write(snap.Object{}, context(0), 0, []byte("was"))
	is(t, "Write", o, err, object("was", 0))
	o, err = snap.Write(o, context(1, 1), 0, []byte("is now"))
	is(t, "Write", o, err, object("is now", 1, clone("was", 1)))
	if data, there := snap.At(o, 1); !there || !bytes.Equal(data, []byte("was")) {
		t.Errorf("at 1 it is %q, %v", data, there)
	}
}
