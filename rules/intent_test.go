package rules_test

import (
	"fmt"
	"math"
	"testing"

	"lamina/api"
	"lamina/head"
	"lamina/marks"
	"lamina/rules"
)

// alone is full without snapshots, or with such as have no parent.
func alone(snaps ...head.Snap) head.Head {
	return with(full(), func(h *head.Head) { h.Snaps = snaps })
}

// P13.1: Begin

func TestBegin(t *testing.T) {
	x := tester{t}
	for _, to := range []int{0, 1, 50, 99, 100} {
		x.gives(fmt.Sprint("cut to ", to), doing(rules.Resize, to))(rules.Begin(full(), rules.Resize, to))
	}
	x.gives("cut to nothing", with(plain(), func(h *head.Head) { h.Intent = 1 }))(rules.Begin(plain(), rules.Resize, 0))
	for _, to := range []int{1, 2, 4} {
		x.gives(fmt.Sprint("brought back to ", to), doing(rules.Rollback, to))(rules.Begin(full(), rules.Rollback, to))
	}
	x.gives("snapshot 1 removed", doing(rules.Remove, 1))(rules.Begin(full(), rules.Remove, 1))
	s := head.Snap{Num: 6, Name: "s", Size: 9, Protected: true, Children: []string{"k"}}
	for _, h := range []head.Head{alone(), alone(s)} {
		x.gives("parted", with(h, func(h *head.Head) { h.Intent = 4 }))(rules.Begin(h, rules.Flatten, 0))
	}
	for _, h := range []head.Head{plain(), alone()} {
		x.gives("removed", with(h, func(h *head.Head) { h.Intent = 5 }))(rules.Begin(h, rules.Delete, 0))
	}
}

func TestBeginRefused(t *testing.T) {
	x := tester{t}
	for _, to := range []int{-1, 101, 4096, 4097, math.MaxInt, math.MinInt} {
		x.refuses(fmt.Sprint("cut to ", to), api.ErrRange)(rules.Begin(full(), rules.Resize, to))
	}
	for _, to := range []int{0, -1, 3, 5, 6, 7, math.MaxInt, math.MinInt} {
		x.refuses(fmt.Sprint("brought back to ", to), api.ErrNone)(rules.Begin(full(), rules.Rollback, to))
		x.refuses(fmt.Sprint("snapshot removed: ", to), api.ErrNone)(rules.Begin(full(), rules.Remove, to))
		x.refuses(fmt.Sprint("none removed: ", to), api.ErrNone)(rules.Begin(plain(), rules.Remove, to))
	}
	x.refuses("a protected one removed", api.ErrProtected)(rules.Begin(full(), rules.Remove, 2))
	x.refuses("one with children removed", api.ErrProtected)(rules.Begin(full(), rules.Remove, 4))
	x.refuses("parted without a parent", api.ErrState)(rules.Begin(plain(), rules.Flatten, 0))
	x.refuses("parted, and a snapshot has one", api.ErrBusy)(rules.Begin(full(), rules.Flatten, 0))
	orphan := with(full(), func(h *head.Head) { h.Link = head.Link{} })
	x.refuses("parted without a parent, and a snapshot has one", api.ErrState)(rules.Begin(orphan, rules.Flatten, 0))
	x.refuses("parted, and the last snapshot has one", api.ErrBusy)(rules.Begin(alone(head.Snap{Num: 1, Name: "a"}, head.Snap{Num: 2, Name: "b", Link: link("x", 1, 0)}), rules.Flatten, 0))
	x.refuses("removed with snapshots", api.ErrBusy)(rules.Begin(many(1), rules.Delete, 0))
	for _, to := range []int{1, -1, 4, 100, math.MaxInt, math.MinInt} {
		for _, h := range []head.Head{plain(), full(), orphan, alone()} {
			x.refuses(fmt.Sprint("parted to ", to), api.ErrRange)(rules.Begin(h, rules.Flatten, to))
			x.refuses(fmt.Sprint("removed to ", to), api.ErrRange)(rules.Begin(h, rules.Delete, to))
		}
	}
	for _, intent := range []int{0, 6, 7, -1, -5, 1<<32 + 1, math.MaxInt, math.MinInt} {
		for _, to := range []int{0, 1, 4, -1, 100} {
			x.refuses(fmt.Sprint("something else: ", intent), api.ErrRange)(rules.Begin(full(), intent, to))
		}
	}
}

// P13.3: nothing else is begun

func TestBeginWhileSomethingIsBeingDone(t *testing.T) {
	x := tester{t}
	for intent, to := range []int{0, 30, 4, 1, 0, 0} {
		for other := -1; other <= 7; other++ {
			for _, what := range []int{-1, 0, 1, 2, 3, 30, 101, math.MaxInt} {
				if intent > 0 {
					x.refuses(fmt.Sprint(other, " while ", intent), api.ErrBusy)(rules.Begin(doing(intent, to), other, what))
				}
			}
		}
	}
}

// P13.1: Finish

func TestFinishNothing(t *testing.T) {
	x := tester{t}
	for _, h := range []head.Head{plain(), full(), many(16), doing(rules.Delete, 0), with(plain(), func(h *head.Head) { h.Intent = 5 })} {
		x.refuses("nothing, or Delete", api.ErrState)(rules.Finish(h))
	}
}

func TestFinishResize(t *testing.T) {
	x := tester{t}
	for to, asked := range map[int]struct {
		row     marks.Marks
		overlap int
	}{
		0: {nil, 0}, 1: {marks.Marks{1}, 1}, 32: {marks.Marks{1}, 32}, 33: {marks.Marks{1, 0}, 33}, 69: {marks.Marks{1, 0, 2}, 69}, 70: {marks.Marks{1, 0, 2}, 70}, 71: {marks.Marks{1, 0, 2}, 70}, 97: {marks.Marks{1, 0, 2, 3}, 70}, 100: {marks.Marks{1, 0, 2, 3}, 70},
		101: {marks.Marks{1, 0, 2, 3}, 70}, 130: {marks.Marks{1, 0, 2, 3, 0}, 70}, 4096: {append(marks.Marks{1, 0, 2, 3}, make(marks.Marks, 124)...), 70}, // no call begins these, and yet such a head is good
	} {
		x.gives(fmt.Sprint("cut to ", to), with(full(), func(h *head.Head) { h.Size, h.Map, h.Overlap = to, asked.row, asked.overlap }))(rules.Finish(doing(rules.Resize, to)))
	}
	h := with(plain(), func(h *head.Head) { h.Size, h.Intent, h.To = 40, 1, 17 })
	x.gives("without marks", with(plain(), func(h *head.Head) { h.Size = 17 }))(rules.Finish(h))
	bad := with(marked("TGC?"), func(h *head.Head) { h.Intent, h.To = 1, 32 })
	x.gives("of marks that aren't good", marked("TG?"))(rules.Finish(bad))
}

func TestFinishRollback(t *testing.T) {
	x := tester{t}
	for _, c := range []struct {
		rows  []string
		to    int
		asked string
	}{
		{[]string{"-TGC", "TTTT"}, 1, "-TTT"}, {[]string{"-TGC?", "TTTT"}, 1, "-TTT?"}, {[]string{"-TGC", "TTTT?"}, 1, "-TTT?"}, {[]string{"-TGC?", "TTTT?"}, 1, "-TTT?"},
		{[]string{"CC", "----"}, 1, "TT"}, {[]string{"G--C", "T"}, 1, "T--T"}, {[]string{"", "CCC"}, 1, ""}, {[]string{"CC-", ""}, 1, "TT-"},
		{[]string{"C-", "G--", "-T-C"}, 1, "T-"}, {[]string{"C-", "G--", "-T-C"}, 2, "T--"}, {[]string{"C-?", "G--", "-T-C"}, 2, "T--"}, {[]string{"C-", "G--?", "-T-C"}, 2, "T--?"},
	} {
		h := with(marked(c.rows...), func(h *head.Head) { h.Intent, h.To = 2, c.to })
		asked := marked(append(append([]string{}, c.rows[:len(c.rows)-1]...), c.asked)...)
		x.gives(fmt.Sprintf("%q back to %d", c.rows, c.to), asked)(rules.Finish(h))
	}
	x.gives("to a snapshot without marks, and without a parent", with(full(), func(h *head.Head) {
		h.Size, h.Link, h.Map, h.MapGood = 40, head.Link{}, marks.Marks{0, 0}, false
	}))(rules.Finish(doing(rules.Rollback, 1)))
	x.gives("to good marks", with(full(), func(h *head.Head) {
		h.Size, h.Link, h.Map = 64, link("mother", 2, 64), marks.Marks{1, 1}
	}))(rules.Finish(doing(rules.Rollback, 2)))
	x.gives("to another parent", with(full(), func(h *head.Head) {
		h.Size, h.Link, h.Map, h.MapGood = 300, link("grandmother", 8, 1), marks.Marks{0, 1, 1, 1, 0, 1, 1, 1, 1, 1}, false
	}))(rules.Finish(doing(rules.Rollback, 4)))
	off := func(h *head.Head) { h.MapOn, h.MapGood, h.Map = false, false, nil }
	for i, num := range []int{1, 2, 4} {
		asked := with(full(), func(h *head.Head) {
			off(h)
			h.Size, h.Link = h.Snaps[i].Size, h.Snaps[i].Link
		})
		x.gives(fmt.Sprint("without marks to ", num), asked)(rules.Finish(with(doing(rules.Rollback, num), off)))
	}
}

func TestFinishRemove(t *testing.T) {
	x := tester{t}
	for _, c := range []struct {
		gone, next, asked string
	}{
		{"----TTTTGGGGCCCC", "-TGC-TGC-TGC-TGC", "-TGC-TGT-TGT-TGC"},
		{"T", "C", "T"}, {"G", "C", "T"}, {"C", "C", "C"}, {"-", "C", "C"}, {"T?", "C", "T?"}, {"T", "C?", "T?"}, {"C?", "C?", "C?"}, {"-?", "-", "-?"},
		{"TT", "CCC", "TTC"}, {"TTT", "CC", "TT"}, {"", "CC", "CC"}, {"TT", "", ""}, {"T?", "", "?"}, {"none", "CT", "CT?"}, {"none", "CT?", "CT?"}, {"none", "", "?"}, {"TG", "none", "none"}, {"TG?", "none", "none"}, {"none", "none", "none"},
	} {
		what := fmt.Sprintf("%q ahead of %q", c.gone, c.next)
		begun := func(h head.Head, num int) head.Head {
			return with(h, func(h *head.Head) { h.Intent, h.To = 3, num })
		}
		left := func(h head.Head, at int) head.Head {
			return with(h, func(h *head.Head) { h.Snaps = append(h.Snaps[:at:at], h.Snaps[at+1:]...) })
		}
		x.gives(what+", the head", left(marked(c.gone, c.asked), 0))(rules.Finish(begun(marked(c.gone, c.next), 1)))
		x.gives(what+", a snapshot", left(marked(c.gone, c.asked, "CC"), 0))(rules.Finish(begun(marked(c.gone, c.next, "CC"), 1)))
		x.gives(what+", one behind another", left(marked("CTG", c.gone, c.asked, "CC", "C"), 1))(rules.Finish(begun(marked("CTG", c.gone, c.next, "CC", "C"), 2)))
		x.gives(what+", the head behind others", left(marked("CCC", "TT", c.gone, c.asked), 2))(rules.Finish(begun(marked("CCC", "TT", c.gone, c.next), 3)))
	}
	// the numbers need not stand side by side
	h := with(full(), func(h *head.Head) { h.Snaps = h.Snaps[1:]; h.Snaps[0].MapGood = false })
	x.gives("snapshot 1 of 1, 2 and 4", h)(rules.Finish(doing(rules.Remove, 1)))
}

// Begin never begins it, and yet such a head is good: Finish names no error for it.
func TestFinishRemoveOfAProtectedOne(t *testing.T) {
	asked := with(full(), func(h *head.Head) { h.Snaps = append(h.Snaps[:1:1], h.Snaps[2]) })
	tester{t}.gives("the protected one", asked)(rules.Finish(doing(rules.Remove, 2)))
}

func TestFinishFlatten(t *testing.T) {
	x := tester{t}
	part := func(h *head.Head) { h.Link = head.Link{} }
	x.gives("parted", with(alone(), part))(rules.Finish(with(alone(), func(h *head.Head) { h.Intent = 4 })))
	x.gives("parted with snapshots", with(full(), part))(rules.Finish(doing(rules.Flatten, 0)))
	x.gives("parted without a parent", plain())(rules.Finish(with(plain(), func(h *head.Head) { h.Intent = 4 })))
}

// P13.1: marks

func TestMark(t *testing.T) {
	x := tester{t}
	off := func(h *head.Head) { h.MapOn, h.MapGood, h.Map = false, false, nil }
	for index := range 4 {
		for mark := range 256 {
			what := fmt.Sprintf("object %d is %d", index, mark)
			if mark > 3 {
				x.refuses(what, api.ErrRange)(rules.Mark(full(), index, byte(mark)))
				x.refuses(what+", without marks", api.ErrRange)(rules.Mark(with(full(), off), index, byte(mark)))
				continue
			}
			x.gives(what, with(full(), func(h *head.Head) { h.Map[index] = byte(mark) }))(rules.Mark(full(), index, byte(mark)))
			x.gives(what+", without marks", with(full(), off))(rules.Mark(with(full(), off), index, byte(mark)))
		}
	}
	for _, index := range []int{-1, 4, 5, 255, 256, 1 << 32, math.MaxInt, math.MinInt} {
		x.refuses(fmt.Sprint("object ", index), api.ErrRange)(rules.Mark(full(), index, 1))
		x.refuses(fmt.Sprint("without marks object ", index), api.ErrRange)(rules.Mark(with(full(), off), index, 1))
		x.refuses(fmt.Sprint("of no object ", index), api.ErrRange)(rules.Mark(plain(), index, 1))
	}
	x.refuses("of no bytes", api.ErrRange)(rules.Mark(plain(), 0, 0))
	x.refuses("of no bytes, with marks", api.ErrRange)(rules.Mark(marked(""), 0, 0))
	x.gives("while something is being done", with(doing(rules.Resize, 9), func(h *head.Head) { h.Map[1] = 2 }))(rules.Mark(doing(rules.Resize, 9), 1, 2))
	x.gives("marks that aren't good", marked("TT?"))(rules.Mark(marked("T-?"), 1, 1))
	all := with(plain(), func(h *head.Head) { h.Size, h.MapOn, h.Map = 4096, true, make(marks.Marks, 256) })
	x.gives("the last one", with(all, func(h *head.Head) { h.Map[255] = 3 }))(rules.Mark(all, 255, 3))
}

func TestRebuilt(t *testing.T) {
	x := tester{t}
	for _, h := range []head.Head{full(), doing(rules.Resize, 9), with(full(), func(h *head.Head) { h.MapGood = false })} {
		x.gives("the head", with(h, func(h *head.Head) { h.MapGood, h.Map = true, marks.Marks{3, 2, 1, 0} }))(rules.Rebuilt(h, 0, marks.Marks{3, 2, 1, 0}))
		x.gives("snapshot 2", with(h, func(h *head.Head) { h.Snaps[1].Map = marks.Marks{0, 2} }))(rules.Rebuilt(h, 2, marks.Marks{0, 2}))
		x.gives("snapshot 4", with(h, func(h *head.Head) { h.Snaps[2].MapGood, h.Snaps[2].Map = true, make(marks.Marks, 10) }))(rules.Rebuilt(h, 4, make(marks.Marks, 10)))
	}
	x.gives("no marks", marked(""))(rules.Rebuilt(marked("?"), 0, nil))
	x.gives("no marks of a snapshot", marked("", "T"))(rules.Rebuilt(marked("?", "T"), 1, marks.Marks{}))
	for _, m := range []marks.Marks{nil, {1}, {1, 2, 3}, {1, 2, 3, 0, 0}, {1, 2, 3, 4}, {255, 0, 0, 0}, make(marks.Marks, 257), make(marks.Marks, 1<<16)} {
		x.refuses(fmt.Sprintf("the head of %d marks", len(m)), api.ErrRange)(rules.Rebuilt(full(), 0, m))
		x.refuses(fmt.Sprintf("a snapshot of %d marks", len(m)), api.ErrRange)(rules.Rebuilt(full(), 2, m))
		x.refuses(fmt.Sprintf("a snapshot without marks of %d", len(m)), api.ErrState)(rules.Rebuilt(full(), 1, m))
		x.refuses(fmt.Sprintf("a head without marks of %d", len(m)), api.ErrState)(rules.Rebuilt(plain(), 0, m))
		for _, num := range []int{-1, 3, 5, 6, 7, math.MaxInt, math.MinInt} {
			x.refuses(fmt.Sprintf("snapshot %d of %d marks", num, len(m)), api.ErrNone)(rules.Rebuilt(full(), num, m))
			x.refuses(fmt.Sprintf("of none snapshot %d of %d marks", num, len(m)), api.ErrNone)(rules.Rebuilt(plain(), num, m))
		}
	}
	x.refuses("a snapshot of as many as the head has", api.ErrRange)(rules.Rebuilt(full(), 2, marks.Marks{0, 1, 2, 3}))
	x.refuses("the head of as many as a snapshot has", api.ErrRange)(rules.Rebuilt(full(), 0, marks.Marks{0, 1}))
	x.refuses("a snapshot's byte that is no mark", api.ErrRange)(rules.Rebuilt(full(), 2, marks.Marks{0, 4}))
}

func TestMapTurn(t *testing.T) {
	x := tester{t}
	for _, h := range []head.Head{full(), plain(), marked("TGC"), marked("TGC?"), marked("none"), doing(rules.Resize, 9), many(3), with(plain(), func(h *head.Head) { h.Size = 33 })} {
		off := with(h, func(h *head.Head) { h.MapOn, h.MapGood, h.Map = false, false, nil })
		on := func(good bool) head.Head {
			return with(h, func(h *head.Head) {
				if !h.MapOn {
					h.Map = make(marks.Marks, (h.Size+h.Object-1)/h.Object)
				}
				h.MapOn, h.MapGood = true, good
			})
		}
		x.gives("off", off)(rules.MapTurn(h, false, false))
		x.gives("on", on(false))(rules.MapTurn(h, true, false))
		x.gives("on and good", on(true))(rules.MapTurn(h, true, true))
		x.refuses("off and good", api.ErrRange)(rules.MapTurn(h, false, true))
	}
	h, err := rules.MapTurn(full(), false, false)
	if err != nil {
		t.Fatal(err)
	}
	x.gives("off and on again", with(full(), func(h *head.Head) { h.Map, h.MapGood = make(marks.Marks, 4), false }))(rules.MapTurn(h, true, false))
}
