package rules_test

import (
	"errors"
	"fmt"
	"math"
	"reflect"
	"slices"
	"testing"

	"lamina/api"
	"lamina/head"
	"lamina/marks"
	"lamina/rules"
)

// dice is numbers that hang on its seed alone.
type dice uint64

func (r *dice) below(n int) int {
	*r = *r*6364136223846793005 + 1442695040888963407
	return int(uint64(*r)>>33) % n
}

func (r *dice) flag() bool { return r.below(2) == 0 }

func pick[T any](r *dice, list ...T) T { return list[r.below(len(list))] }

func (r *dice) link(size int) head.Link {
	if r.flag() {
		return head.Link{}
	}
	return link(pick(r, "mum", "dad"), 1+r.below(3), pick(r, 0, size, r.below(size+1)))
}

func (r *dice) row(n int) marks.Marks {
	m := make(marks.Marks, n)
	for i := range m {
		m[i] = byte(r.below(4))
	}
	return m
}

// marked is marks for so many bytes, or none.
func (r *dice) marked(size, object int) (on, good bool, m marks.Marks) {
	if r.below(3) == 0 {
		return false, false, nil
	}
	return true, r.below(3) > 0, r.row((size + object - 1) / object)
}

func (r *dice) size() int { return pick(r, 0, 4096, r.below(4097), r.below(100), r.below(100)) }

func (r *dice) snap(num, object int) head.Snap {
	s := head.Snap{Num: num, Name: fmt.Sprint("s", num), Size: r.size(), Protected: r.flag()}
	s.MapOn, s.MapGood, s.Map = r.marked(s.Size, object)
	s.Link = r.link(s.Size)
	for _, child := range []string{"-kid", "a", "kid", "kid2"} {
		if s.Protected && r.below(3) == 0 {
			s.Children = append(s.Children, child)
		}
	}
	return s
}

// head is any good head; of half of them nothing is being done.
func (r *dice) head() head.Head {
	h := head.Head{ID: r.below(1000), Size: r.size(), Object: 16 << r.below(5), Owner: r.below(9) - 1}
	h.MapOn, h.MapGood, h.Map = r.marked(h.Size, h.Object)
	h.Link = r.link(h.Size)
	for range pick(r, 0, 0, 1, 2, 3, 15, 16) {
		h.Seq += 1 + r.below(2)*r.below(3)
		h.Snaps = append(h.Snaps, r.snap(h.Seq, h.Object))
	}
	h.Seq = pick(r, h.Seq, h.Seq+1, h.Seq+1, math.MaxInt-1, math.MaxInt)
	switch intent := r.below(11); {
	case intent == 1:
		h.Intent, h.To = intent, pick(r, r.below(4097), r.below(h.Size+1), h.Overlap, 0)
	case intent == 4, intent == 5:
		h.Intent = intent
	case intent == 2 && len(h.Snaps) > 0, intent == 3 && len(h.Snaps) > 0:
		h.Intent, h.To = intent, pick(r, h.Snaps...).Num
	}
	return h
}

// P13.1: what the chapter says of each call

// answer is what a call answers.
type answer struct {
	h   head.Head
	who int
	err error
}

func (a answer) same(b answer) bool {
	if a.err != nil || b.err != nil {
		return a.err != nil && b.err != nil && errors.Is(a.err, b.err) && reflect.DeepEqual(a.h, head.Head{}) && a.who == 0
	}
	return same(a.h, b.h) && a.who == b.who
}

// ask is a call with its arguments: what it answers, and what the chapter says.
type ask struct {
	call, what string
	do         func(h head.Head) answer
	asked      func(h head.Head) answer
}

// reason is an error, and whether it is to be answered.
type reason struct {
	is  bool
	err api.Errno
}

// told is the first error that there is a reason for, or a copy with which something is done.
func told(h head.Head, done func(h *head.Head), reasons ...reason) answer {
	for _, r := range append([]reason{{!head.Good(h), api.ErrForm}}, reasons...) {
		if r.is {
			return answer{err: r.err}
		}
	}
	return answer{h: with(h, done)}
}

// found is a snapshot that is looked for, and where it stands; the zero one and -1, if there is none.
func found(h head.Head, is func(s head.Snap) bool) (head.Snap, int) {
	for i, s := range h.Snaps {
		if is(s) {
			return s, i
		}
	}
	return head.Snap{}, -1
}

func named(h head.Head, name string) (head.Snap, int) {
	return found(h, func(s head.Snap) bool { return s.Name == name })
}

func numbered(h head.Head, num int) (head.Snap, int) {
	return found(h, func(s head.Snap) bool { return s.Num == num })
}

// filled is so many marks: what an old row has for each, or 0.
func filled(old marks.Marks, size, object int) marks.Marks {
	var m marks.Marks
	for at := 0; at < size; at += object {
		mark := byte(0)
		if len(m) < len(old) {
			mark = old[len(m)]
		}
		m = append(m, mark)
	}
	return m
}

// replaced is a row with another mark in place of some.
func replaced(m marks.Marks, by byte, old ...byte) marks.Marks {
	m = slices.Clone(m)
	for i := range m {
		if slices.Contains(old, m[i]) {
			m[i] = by
		}
	}
	return m
}

func single(h head.Head, err error) answer { return answer{h: h, err: err} }

func acquire(client int) ask {
	return ask{"Acquire", fmt.Sprint(client), func(h head.Head) answer { return single(rules.Acquire(h, client)) }, func(h head.Head) answer {
		return told(h, func(h *head.Head) { h.Owner = client }, reason{client < 0 || client > 7, api.ErrRange}, reason{h.Owner >= 0 && h.Owner != client, api.ErrBusy})
	}}
}

func release(client int) ask {
	return ask{"Release", fmt.Sprint(client), func(h head.Head) answer { return single(rules.Release(h, client)) }, func(h head.Head) answer {
		return told(h, func(h *head.Head) { h.Owner = -1 }, reason{h.Owner < 0 || h.Owner != client, api.ErrLock}, reason{h.Intent > 0, api.ErrBusy})
	}}
}

func breakLock() ask {
	return ask{"Break", "", func(h head.Head) answer {
		got, who, err := rules.Break(h)
		return answer{got, who, err}
	}, func(h head.Head) answer {
		a := told(h, func(h *head.Head) { h.Owner = -1 }, reason{h.Owner < 0, api.ErrNone})
		if a.err == nil {
			a.who = h.Owner
		}
		return a
	}}
}

// owns answers no head: of the model only the error is asked for.
func owns(client int) ask {
	return ask{"Owns", fmt.Sprint(client), func(h head.Head) answer { return answer{err: rules.Owns(h, client)} }, func(h head.Head) answer {
		return answer{err: told(h, func(*head.Head) {}, reason{h.Owner < 0 || h.Owner != client, api.ErrLock}).err}
	}}
}

func snapMake(name string) ask {
	return ask{"SnapMake", fmt.Sprintf("%q", name), func(h head.Head) answer { return single(rules.SnapMake(h, name)) }, func(h head.Head) answer {
		_, at := named(h, name)
		return told(h, func(h *head.Head) {
			s := head.Snap{Num: h.Seq + 1, Name: name, Size: h.Size, MapOn: h.MapOn, MapGood: h.MapGood, Map: slices.Clone(h.Map), Link: h.Link}
			h.Seq, h.Snaps, h.Map = s.Num, append(h.Snaps, s), replaced(h.Map, 3, 1)
		}, reason{h.Intent > 0, api.ErrBusy}, reason{!head.Named(name), api.ErrRange}, reason{at >= 0, api.ErrExists}, reason{len(h.Snaps) > 15 || h.Seq == 1<<63-1, api.ErrFull})
	}}
}

func protect(name string) ask {
	return ask{"Protect", fmt.Sprintf("%q", name), func(h head.Head) answer { return single(rules.Protect(h, name)) }, func(h head.Head) answer {
		s, at := named(h, name)
		return told(h, func(h *head.Head) { h.Snaps[at].Protected = true }, reason{at < 0, api.ErrNone}, reason{h.Intent == 3 && h.To == s.Num, api.ErrBusy}, reason{s.Protected, api.ErrProtected})
	}}
}

func unprotect(name string) ask {
	return ask{"Unprotect", fmt.Sprintf("%q", name), func(h head.Head) answer { return single(rules.Unprotect(h, name)) }, func(h head.Head) answer {
		s, at := named(h, name)
		return told(h, func(h *head.Head) { h.Snaps[at].Protected = false }, reason{at < 0, api.ErrNone}, reason{!s.Protected, api.ErrState}, reason{s.Children != nil, api.ErrBusy})
	}}
}

func addChild(name, child string) ask {
	return ask{"AddChild", fmt.Sprintf("%q %q", name, child), func(h head.Head) answer { return single(rules.AddChild(h, name, child)) }, func(h head.Head) answer {
		s, at := named(h, name)
		return told(h, func(h *head.Head) {
			l := append(slices.Clone(s.Children), child)
			slices.Sort(l)
			h.Snaps[at].Children = l
		}, reason{at < 0, api.ErrNone}, reason{!head.Named(child), api.ErrRange}, reason{!s.Protected, api.ErrState}, reason{slices.Contains(s.Children, child), api.ErrExists})
	}}
}

func dropChild(num int, child string) ask {
	return ask{"DropChild", fmt.Sprintf("%d %q", num, child), func(h head.Head) answer { return single(rules.DropChild(h, num, child)) }, func(h head.Head) answer {
		s, at := numbered(h, num)
		return told(h, func(h *head.Head) {
			h.Snaps[at].Children = slices.DeleteFunc(h.Snaps[at].Children, func(c string) bool { return c == child })
		}, reason{!slices.Contains(s.Children, child), api.ErrNone})
	}}
}

func grow(size int) ask {
	return ask{"Grow", fmt.Sprint(size), func(h head.Head) answer { return single(rules.Grow(h, size)) }, func(h head.Head) answer {
		return told(h, func(h *head.Head) { cutTo(h, size) }, reason{h.Intent > 0, api.ErrBusy}, reason{size < h.Size || size > 4096, api.ErrRange})
	}}
}

func begin(intent, to int) ask {
	return ask{"Begin", fmt.Sprint(intent, " ", to), func(h head.Head) answer { return single(rules.Begin(h, intent, to)) }, func(h head.Head) answer {
		s, at := numbered(h, to)
		_, linked := found(h, func(s head.Snap) bool { return s.Parent != "" })
		reasons := map[int][]reason{
			1: {{to < 0 || to > h.Size, api.ErrRange}},
			2: {{at < 0, api.ErrNone}},
			3: {{at < 0, api.ErrNone}, {s.Protected, api.ErrProtected}},
			4: {{to != 0, api.ErrRange}, {h.Parent == "", api.ErrState}, {linked >= 0, api.ErrBusy}},
			5: {{to != 0, api.ErrRange}, {h.Snaps != nil, api.ErrBusy}},
		}[intent]
		if reasons == nil {
			reasons = []reason{{true, api.ErrRange}}
		}
		return told(h, func(h *head.Head) { h.Intent, h.To = intent, to }, append([]reason{{h.Intent > 0, api.ErrBusy}}, reasons...)...)
	}}
}

func finish() ask {
	return ask{"Finish", "", func(h head.Head) answer { return single(rules.Finish(h)) }, func(h head.Head) answer {
		return told(h, func(h *head.Head) {
			s, at := numbered(*h, h.To)
			switch h.Intent {
			case 1:
				cutTo(h, h.To)
			case 2:
				backTo(h, s)
			case 3:
				without(h, at)
			case 4:
				h.Link = head.Link{}
			}
			h.Intent, h.To = 0, 0
		}, reason{h.Intent == 0 || h.Intent == 5, api.ErrState})
	}}
}

func cutTo(h *head.Head, size int) {
	h.Size = size
	if h.MapOn {
		h.Map = filled(h.Map, size, h.Object)
	}
	if h.Overlap > size {
		h.Overlap = size
	}
}

func backTo(h *head.Head, s head.Snap) {
	h.Size, h.Link = s.Size, s.Link
	switch {
	case h.MapOn && s.MapOn:
		h.Map = replaced(s.Map, 1, 3, 2)
		if !s.MapGood {
			h.MapGood = false
		}
	case h.MapOn:
		h.Map, h.MapGood = filled(nil, s.Size, h.Object), false
	}
}

func without(h *head.Head, at int) {
	gone := h.Snaps[at]
	on, good, row := h.MapOn, &h.MapGood, h.Map
	if at != len(h.Snaps)-1 {
		next := &h.Snaps[at+1]
		on, good, row = next.MapOn, &next.MapGood, next.Map
	}
	switch {
	case on && gone.MapOn:
		for i := range row {
			if i < len(gone.Map) && row[i] == 3 && gone.Map[i] != 0 && gone.Map[i] != 3 {
				row[i] = 1
			}
		}
		if !gone.MapGood {
			*good = false
		}
	case on:
		*good = false
	}
	var left []head.Snap
	for i, s := range h.Snaps {
		if i != at {
			left = append(left, s)
		}
	}
	h.Snaps = left
}

func mark(index int, m byte) ask {
	return ask{"Mark", fmt.Sprint(index, " ", m), func(h head.Head) answer { return single(rules.Mark(h, index, m)) }, func(h head.Head) answer {
		return told(h, func(h *head.Head) {
			if h.MapOn {
				h.Map[index] = m
			}
		}, reason{index < 0 || index >= len(filled(nil, h.Size, max(h.Object, 1))), api.ErrRange}, reason{m > 3, api.ErrRange})
	}}
}

func rebuilt(num int, m marks.Marks) ask {
	return ask{"Rebuilt", fmt.Sprint(num, " ", m), func(h head.Head) answer { return single(rules.Rebuilt(h, num, m)) }, func(h head.Head) answer {
		s, at := numbered(h, num)
		on, row := s.MapOn, s.Map
		if num == 0 {
			on, row = h.MapOn, h.Map
		}
		bad := slices.ContainsFunc(m, func(b byte) bool { return b > 3 })
		return told(h, func(h *head.Head) {
			if num == 0 {
				h.Map, h.MapGood = m, true
				return
			}
			h.Snaps[at].Map, h.Snaps[at].MapGood = m, true
		}, reason{num != 0 && at < 0, api.ErrNone}, reason{!on, api.ErrState}, reason{bad || len(m) != len(row), api.ErrRange})
	}}
}

func mapTurn(on, good bool) ask {
	return ask{"MapTurn", fmt.Sprint(on, " ", good), func(h head.Head) answer { return single(rules.MapTurn(h, on, good)) }, func(h head.Head) answer {
		return told(h, func(h *head.Head) {
			switch {
			case on && !h.MapOn:
				h.Map = filled(nil, h.Size, h.Object)
			case !on:
				h.Map = nil
			}
			h.MapOn, h.MapGood = on, good
		}, reason{!on && good, api.ErrRange})
	}}
}

// any arguments, of which many go with the head

func (r *dice) client(h head.Head) int { return pick(r, h.Owner, h.Owner, r.below(8), r.below(12)-2) }

func (r *dice) name(h head.Head) string {
	list := []string{"s1", "s3", "new", "newer", "", "S1", "a b"}
	for _, s := range h.Snaps {
		list = append(list, s.Name)
	}
	return pick(r, list...)
}

func (r *dice) num(h head.Head) int {
	list := []int{0, 0, 1, 2, h.Seq, -1, h.Seq + 1}
	for _, s := range h.Snaps {
		list = append(list, s.Num)
	}
	return pick(r, list...)
}

func (r *dice) child() string { return pick(r, "-kid", "a", "kid", "kid2", "kid3", "x", "", "Kid") }

// kid is a child, and a snapshot's number: most often of that one, if there is any.
func (r *dice) kid(h head.Head) (int, string) {
	for _, s := range h.Snaps {
		if len(s.Children) > 0 && r.below(3) > 0 {
			return s.Num, pick(r, s.Children...)
		}
	}
	return r.num(h), r.child()
}

func (r *dice) to(h head.Head) int {
	return pick(r, 0, 0, r.num(h), r.num(h), r.below(4097), h.Size, h.Size+1, h.Size-1, h.Size/2, -1, 4096, 4097, math.MaxInt, math.MinInt)
}

// marks are as many as a view has, now and then one more or less, or one that is none.
func (r *dice) marks(h head.Head, num int) marks.Marks {
	n := len(h.Map)
	if s, at := numbered(h, num); at >= 0 {
		n = len(s.Map)
	}
	m := r.row(max(0, n+pick(r, 0, 0, 0, 0, 1, -1)))
	if len(m) > 0 && r.below(6) == 0 {
		m[r.below(len(m))] = byte(r.below(256))
	}
	return m
}

// asks is one of each call.
func (r *dice) asks(h head.Head) []ask {
	num := r.num(h)
	parent, kid := r.kid(h)
	return []ask{
		acquire(r.client(h)), release(r.client(h)), breakLock(), owns(r.client(h)), snapMake(r.name(h)), protect(r.name(h)), unprotect(r.name(h)), addChild(r.name(h), r.child()), dropChild(parent, kid), grow(r.to(h)),
		begin(1, r.to(h)), begin(2, r.to(h)), begin(3, r.to(h)), begin(4, r.to(h)), begin(5, r.to(h)), begin(r.below(9)-1, r.to(h)), finish(), mark(r.below(h.Size/16+3)-1, byte(r.below(6))), rebuilt(num, r.marks(h, num)), mapTurn(r.flag(), r.flag()),
	}
}

// P13.1, P13.2: any good heads, with any arguments

func TestAnyHeads(t *testing.T) {
	r := dice(13)
	done, refused := map[string]int{}, map[string]int{}
	for range 4000 {
		h := r.head()
		if !head.Good(h) {
			t.Fatalf("%+v isn't good", h)
		}
		for _, a := range r.asks(h) {
			got, asked := a.do(h), a.asked(h)
			if !got.same(asked) {
				t.Fatalf("%s(%s) of %+v: %+v; not %+v", a.call, a.what, h, got, asked)
			}
			if got.err != nil {
				refused[fmt.Sprint(a.call, " ", got.err)]++
				continue
			}
			if done[a.call]++; a.call != "Owns" && !head.Good(got.h) {
				t.Fatalf("%s(%s) of %+v isn't good: %+v", a.call, a.what, h, got.h)
			}
		}
	}
	for _, call := range []string{"Acquire", "Release", "Break", "Owns", "SnapMake", "Protect", "Unprotect", "AddChild", "DropChild", "Grow", "Begin", "Finish", "Mark", "Rebuilt", "MapTurn"} {
		if done[call] < 100 {
			t.Errorf("%s was done %d times only", call, done[call])
		}
	}
	if len(refused) != 34 {
		t.Errorf("%d errors of calls came, not 34: %v", len(refused), refused)
	}
}

// P13.1: any arguments, of a head that isn't good

func TestNoHeads(t *testing.T) {
	r := dice(131)
	for range 3000 {
		h := r.head()
		what := r.spoil(&h)
		if head.Good(h) {
			continue
		}
		for _, a := range r.asks(h) {
			if got := a.do(h); !got.same(answer{err: api.ErrForm}) {
				t.Fatalf("%s(%s) of %+v, %s: %+v", a.call, a.what, h, what, got)
			}
		}
	}
	for _, a := range r.asks(head.Head{}) {
		if got := a.do(head.Head{}); !got.same(answer{err: api.ErrForm}) {
			t.Errorf("%s(%s) of the zero head: %+v", a.call, a.what, got)
		}
	}
}

// spoil changes one thing of a head; most such heads aren't good.
func (r *dice) spoil(h *head.Head) string {
	numbers := []*int{&h.ID, &h.Size, &h.Object, &h.Seq, &h.ParentSnap, &h.Overlap, &h.Owner, &h.Intent, &h.To}
	rows, flags := []*marks.Marks{&h.Map}, []*bool{&h.MapOn, &h.MapGood}
	if len(h.Snaps) > 0 {
		s := &h.Snaps[r.below(len(h.Snaps))]
		numbers, rows, flags = append(numbers, &s.Num, &s.Size, &s.ParentSnap, &s.Overlap), append(rows, &s.Map), append(flags, &s.MapOn, &s.MapGood, &s.Protected)
	}
	switch r.below(4) {
	case 0:
		*pick(r, numbers...) = pick(r, -1, -2, 0, 8, 9, 17, 4097, math.MaxInt, math.MinInt)
		return "a number"
	case 1:
		f := pick(r, flags...)
		*f = !*f
		return "a flag"
	case 2:
		m := pick(r, rows...)
		*m = append(slices.Clone(*m), byte(r.below(256)))
		return "a mark"
	}
	s := head.Snap{Num: 1, Name: "s1", Children: []string{"b", "a"}}
	h.Snaps = append(slices.Clone(h.Snaps), s)
	return "a snapshot"
}

// P13.3: whatever is done, one behind the other

func TestWhatIsKept(t *testing.T) {
	r := dice(133)
	counts := map[string]int{}
	for range 400 {
		h := with(plain(), func(h *head.Head) { h.Size, h.Link = 300, link("mum", 1, 200) })
		for range 80 {
			a := pick(&r, r.asks(h)...)
			got := a.do(h)
			if got.err != nil {
				counts["refused"]++
				continue
			}
			if a.call == "Owns" {
				continue
			}
			counts[a.call]++
			if what := broken(a, h, got.h); what != "" {
				t.Fatalf("%s: %s(%s) of %+v: %+v", what, a.call, a.what, h, got.h)
			}
			h = got.h
		}
	}
	for _, call := range []string{"Acquire", "Release", "Break", "SnapMake", "Protect", "Unprotect", "AddChild", "DropChild", "Grow", "Begin", "Finish", "Mark", "Rebuilt", "MapTurn"} {
		if counts[call] < 5 {
			t.Errorf("%s was done %d times only", call, counts[call])
		}
	}
}

// broken is what is broken of the third promise; nothing, if it is kept.
func broken(a ask, old, now head.Head) string {
	for _, s := range old.Snaps {
		if _, at := numbered(now, s.Num); at < 0 && (s.Protected || len(s.Children) > 0) {
			return "a snapshot that is protected is gone"
		}
		if _, at := numbered(now, s.Num); at < 0 && (a.call != "Finish" || old.Intent != 3 || old.To != s.Num) {
			return "a snapshot is gone, and wasn't being removed"
		}
	}
	if old.Owner != now.Owner && now.Owner < 0 && a.call != "Break" && (a.call != "Release" || a.what != fmt.Sprint(old.Owner)) {
		return "the lock is free"
	}
	if old.Owner != now.Owner && old.Owner >= 0 && now.Owner >= 0 {
		return "the lock is another one's"
	}
	if old.Intent != 0 && now.Intent != 0 && (old.Intent != now.Intent || old.To != now.To) {
		return "something else is begun"
	}
	return ""
}

// P13.4: what is handed in is neither changed nor kept, and answers are new memory

// roomy is a list with spare room, in which something stands.
func roomy[L ~[]T, T any](list L, spare T) L {
	return append(slices.Clone(list), spare, spare, spare)[:len(list)]
}

// fill changes a list with all its spare room.
func fill[T any](list []T, x T) {
	list = list[:cap(list)]
	for i := range list {
		list[i] = x
	}
}

// spread is a head all of whose lists have spare room.
func spread(h head.Head) head.Head {
	h = tidy(h)
	h.Map, h.Snaps = roomy(h.Map, 77), roomy(h.Snaps, head.Snap{Num: 77})
	for i := range h.Snaps {
		s := &h.Snaps[i]
		s.Map, s.Children = roomy(s.Map, 77), roomy(s.Children, "spare")
	}
	return h
}

// scrawl changes all lists of a head, with their spare room.
func scrawl(h head.Head) {
	for i, s := range h.Snaps {
		fill(s.Map, byte(100+i))
		fill(s.Children, fmt.Sprint("scrawl", i))
	}
	fill(h.Map, 99)
	fill(h.Snaps, head.Snap{Num: 88})
}

// whole is all that stands in a head's lists, with their spare room.
func whole(h head.Head) string {
	s := fmt.Sprintf("%+v %v", h, h.Map[:cap(h.Map)])
	for _, one := range h.Snaps[:cap(h.Snaps)] {
		s += fmt.Sprintf(" %+v %v %q", one, one.Map[:cap(one.Map)], one.Children[:cap(one.Children)])
	}
	return s
}

func TestHeadsStayAsTheyAre(t *testing.T) {
	r := dice(134)
	for range 400 {
		h := r.head()
		for _, a := range r.asks(h) {
			in := spread(h)
			was := whole(in)
			got := a.do(in)
			if whole(in) != was {
				t.Fatalf("%s(%s) changes %+v", a.call, a.what, h)
			}
			if scrawl(in); !got.same(a.asked(h)) {
				t.Fatalf("%s(%s) keeps what it is handed: %+v", a.call, a.what, h)
			}
			in = spread(h)
			if scrawl(a.do(in).h); whole(in) != was {
				t.Fatalf("%s(%s) answers what it is handed: %+v", a.call, a.what, h)
			}
			apart(t, a, a.do(in).h)
		}
	}
}

// apart tells of two lists of one head that share memory: each is filled with something else.
func apart(t *testing.T, a ask, h head.Head) {
	t.Helper()
	snaps := slices.Clone(h.Snaps)
	scrawl(h)
	for _, mark := range h.Map {
		if mark != 99 {
			t.Fatalf("%s(%s): the head's marks are a snapshot's", a.call, a.what)
		}
	}
	for i, s := range snaps {
		for _, mark := range s.Map {
			if int(mark) != 100+i {
				t.Fatalf("%s(%s): the marks of snapshot %d are another one's", a.call, a.what, i)
			}
		}
		for _, child := range s.Children {
			if child != fmt.Sprint("scrawl", i) {
				t.Fatalf("%s(%s): the children of snapshot %d are another one's", a.call, a.what, i)
			}
		}
	}
}

// A head whose lists share memory is answered as one whose lists don't.
func TestListsThatShareArePartedFromEachOther(t *testing.T) {
	row := marks.Marks{1, 2, 3}
	h := many(3)
	h.Size, h.MapOn, h.Map = 48, true, row
	for i := range h.Snaps {
		h.Snaps[i].Size, h.Snaps[i].MapOn, h.Snaps[i].Map, h.Snaps[i].Protected, h.Snaps[i].Children = 48, true, row, i != 1, nil
	}
	for _, back := range []head.Head{h, with(h, func(h *head.Head) { h.Intent, h.To = 2, 2 }), with(h, func(h *head.Head) { h.Intent, h.To = 3, 2 })} {
		back.Map = row
		for i := range back.Snaps {
			back.Snaps[i].Map = row
		}
		for _, a := range []ask{acquire(1), snapMake("x"), protect("s2"), unprotect("s1"), addChild("s3", "kid"), grow(60), begin(3, 2), finish(), mark(0, 3), rebuilt(2, row), rebuilt(0, row), mapTurn(true, true)} {
			got := a.do(back)
			if !got.same(a.asked(back)) {
				t.Errorf("%s(%s): %+v", a.call, a.what, got)
			}
			apart(t, a, got.h)
		}
	}
	if !slices.Equal(row, marks.Marks{1, 2, 3}) {
		t.Error("the row is changed")
	}
}

func TestMarksThatAreHandedIn(t *testing.T) {
	for _, num := range []int{0, 1} {
		h := marked("TGC", "CCC")
		row := roomy(marks.Marks{0, 1, 2}, 77)
		got, err := rules.Rebuilt(h, num, row)
		if err != nil || !slices.Equal(row[:cap(row)][:6], marks.Marks{0, 1, 2, 77, 77, 77}) {
			t.Fatal(row, err)
		}
		fill(row, 88)
		if a := rebuilt(num, marks.Marks{0, 1, 2}); !a.asked(h).same(answer{h: got}) {
			t.Errorf("marks are kept: %+v", got)
		}
		copy(row, marks.Marks{0, 1, 2})
		got, err = rules.Rebuilt(h, num, row)
		if err != nil {
			t.Fatal(err)
		}
		if scrawl(got); !slices.Equal(row, marks.Marks{0, 1, 2}) {
			t.Errorf("marks are answered: %+v", row)
		}
		if _, err = rules.Rebuilt(h, num, row[:2]); err == nil || !slices.Equal(row, marks.Marks{0, 1, 2}) {
			t.Errorf("marks are changed: %+v, %v", row, err)
		}
	}
}
