package head_test

import (
	"bytes"
	"encoding/binary"
	"fmt"
	"math"
	"regexp"
	"slices"
	"strings"
	"testing"

	"lamina/head"
	"lamina/marks"
)

// dice is numbers that hang on its seed alone.
type dice uint64

func (r *dice) below(n int) int {
	*r = *r*6364136223846793005 + 1442695040888963407
	return int(uint64(*r)>>33) % n
}

func (r *dice) flag() bool { return r.below(2) == 0 }

// P11.1: Good, by a list of what is missing

var name = regexp.MustCompile(`^[a-z0-9-]{1,20}$`)

// part is what a head and a snapshot both say.
type part struct {
	size       int
	on, good   bool
	row        marks.Marks
	link       head.Link
	object     int
	what       string
	complaints *[]string
}

func (p part) needs(ok bool, what string) {
	if !ok {
		*p.complaints = append(*p.complaints, p.what+": "+what)
	}
}

// complain tells what is wrong with it.
func (p part) complain() {
	p.needs(p.size >= 0 && p.size <= 4096, "its size")
	count := 0
	for room := 0; p.on && p.object > 0 && room < min(p.size, 1<<13); room += p.object {
		count++
	}
	p.needs(len(p.row) == count, "how many marks")
	for _, mark := range p.row {
		p.needs(mark < 4, "a mark")
	}
	p.needs(!p.good || p.on, "good marks that aren't there")
	if p.link.Parent == "" {
		p.needs(p.link.ParentSnap == 0 && p.link.Overlap == 0, "a link without a parent")
		return
	}
	p.needs(name.MatchString(p.link.Parent), "its parent")
	p.needs(p.link.ParentSnap > 0, "its parent's snapshot")
	p.needs(p.link.Overlap >= 0 && p.link.Overlap <= p.size, "its overlap")
}

// complaints is what is wrong with a head.
func complaints(h head.Head) []string {
	var list []string
	all := part{h.Size, h.MapOn, h.MapGood, h.Map, h.Link, h.Object, "head", &list}
	all.complain()
	all.needs(h.ID >= 0, "its number")
	all.needs(slices.Contains([]int{16, 32, 64, 128, 256}, h.Object), "its objects")
	all.needs(h.Seq >= 0, "its newest number")
	all.needs(len(h.Snaps) <= 16, "how many snapshots")
	all.needs(h.Owner >= -1 && h.Owner <= 7, "its owner")
	numbers, names := map[int]bool{}, map[string]bool{}
	for i, s := range h.Snaps {
		one := part{s.Size, s.MapOn, s.MapGood, s.Map, s.Link, h.Object, fmt.Sprint("snapshot ", i), &list}
		one.complain()
		one.needs(s.Num >= 1 && s.Num <= h.Seq, "its number")
		one.needs(i == 0 || s.Num > h.Snaps[i-1].Num, "it doesn't rise")
		one.needs(name.MatchString(s.Name), "its name")
		one.needs(!names[s.Name], "its name is another one's")
		one.needs(s.Protected || len(s.Children) == 0, "it isn't protected")
		for k, child := range s.Children {
			one.needs(name.MatchString(child), "a child")
			one.needs(k == 0 || strings.Compare(child, s.Children[k-1]) > 0, "a child that doesn't rise")
		}
		numbers[s.Num], names[s.Name] = true, true
	}
	switch h.Intent {
	case 0, 4, 5:
		all.needs(h.To == 0, "to nothing")
	case 1:
		all.needs(h.To >= 0 && h.To <= 4096, "to a size")
	case 2, 3:
		all.needs(numbers[h.To], "to a snapshot")
	default:
		all.needs(false, "what is being done")
	}
	return list
}

// P11.1, P11.2: the text, by the chapter's own list

func modelText(h head.Head) string {
	var b strings.Builder
	flag := func(f bool) { b.WriteString(map[bool]string{false: no, true: yes}[f]) }
	row := func(m marks.Marks) {
		s := string(binary.LittleEndian.AppendUint16(nil, uint16(len(m))))
		for i := 0; i < len(m); i += 4 {
			four := byte(0)
			for k, mark := range m[i:min(i+4, len(m))] {
				four |= mark << (2 * k)
			}
			s += string([]byte{four})
		}
		b.WriteString(txt(s))
	}
	b.WriteString(num(h.ID, h.Size, h.Object, h.Seq, len(h.Snaps)))
	for _, s := range h.Snaps {
		b.WriteString(num(s.Num) + txt(s.Name) + num(s.Size))
		flag(s.MapOn)
		flag(s.MapGood)
		row(s.Map)
		b.WriteString(txt(s.Parent) + num(s.ParentSnap, s.Overlap))
		flag(s.Protected)
		b.WriteString(num(len(s.Children)))
		for _, child := range s.Children {
			b.WriteString(txt(child))
		}
	}
	flag(h.MapOn)
	flag(h.MapGood)
	row(h.Map)
	b.WriteString(txt(h.Parent) + num(h.ParentSnap, h.Overlap) + num(h.Owner, h.Intent, h.To))
	return b.String()
}

// cutter cuts a text into its parts, and panics where there is none.
type cutter struct{ left string }

func (c *cutter) bytes(n int) string {
	s := c.left[:n]
	c.left = c.left[n:]
	return s
}

func (c *cutter) num() int { return int(binary.LittleEndian.Uint64([]byte(c.bytes(8)))) }

func (c *cutter) txt() string { return c.bytes(c.num()) }

func (c *cutter) flag() bool { return map[string]int{no: 1, yes: 2}[c.bytes(1)]-1 == 1 }

func (c *cutter) row() marks.Marks {
	var m marks.Marks
	s := c.txt()
	for i := range int(binary.LittleEndian.Uint16([]byte(s))) {
		m = append(m, s[2+i/4]>>(i%4*2)%4)
	}
	return m
}

// modelTake is the head of a text, and whether it is one's.
func modelTake(b []byte) (h head.Head, ok bool) {
	defer func() {
		if recover() != nil {
			h, ok = head.Head{}, false
		}
	}()
	c := &cutter{string(b)}
	h.ID, h.Size, h.Object, h.Seq = c.num(), c.num(), c.num(), c.num()
	for range c.num() {
		var s head.Snap
		s.Num, s.Name, s.Size, s.MapOn, s.MapGood, s.Map, s.Parent, s.ParentSnap, s.Overlap, s.Protected = c.num(), c.txt(), c.num(), c.flag(), c.flag(), c.row(), c.txt(), c.num(), c.num(), c.flag()
		for range c.num() {
			s.Children = append(s.Children, c.txt())
		}
		h.Snaps = append(h.Snaps, s)
	}
	h.MapOn, h.MapGood, h.Map, h.Parent, h.ParentSnap, h.Overlap = c.flag(), c.flag(), c.row(), c.txt(), c.num(), c.num()
	h.Owner, h.Intent, h.To = c.num(), c.num(), c.num()
	if len(complaints(h)) > 0 || modelText(h) != string(b) {
		return head.Head{}, false
	}
	return h, true
}

// holds compares a head with what the model says of it.
func holds(t *testing.T, h head.Head) {
	t.Helper()
	wrong := complaints(h)
	if head.Good(h) != (len(wrong) == 0) {
		t.Fatalf("%+v: good: %v; %q", h, len(wrong) > 0, wrong)
	}
	b, err := head.Put(h)
	if (err == nil) != (len(wrong) == 0) || err == nil && string(b) != modelText(h) {
		t.Fatalf("Put of %+v: %q, %v; not %q", h, b, err, modelText(h))
	}
}

// takes compares what is taken of bytes with what the model takes.
func takes(t *testing.T, b []byte) (taken bool) {
	t.Helper()
	asked, ok := modelTake(b)
	h, err := head.Take(b)
	if (err == nil) != ok || !same(h, asked) {
		t.Fatalf("Take of %q: %+v, %v; not %+v, %v", b, h, err, asked, ok)
	}
	if again, err := head.Put(h); ok && (err != nil || !bytes.Equal(again, b)) {
		t.Fatalf("%q is taken, and put as %q, %v", b, again, err)
	}
	return ok
}

func TestEditsAsTheModel(t *testing.T) {
	for _, e := range goodEdits() {
		if wrong := complaints(edited(e)); len(wrong) > 0 {
			t.Errorf("%s: %q", e.what, wrong)
		}
	}
	for _, e := range badEdits() {
		if len(complaints(edited(e))) == 0 {
			t.Errorf("%s: no complaint", e.what)
		}
	}
	for _, h := range heads() {
		holds(t, h)
	}
}

// P11.1, P11.2: any heads

func (r *dice) name() string {
	b := make([]byte, 1+r.below(3))
	for i := range b {
		b[i] = "ab0-"[r.below(4)]
	}
	if r.below(20) == 0 {
		return strings.Repeat(string(b), 20)[:20]
	}
	return string(b)
}

func (r *dice) link(size int) head.Link {
	if r.flag() {
		return head.Link{}
	}
	return link(r.name(), 1+r.below(3), []int{0, size, r.below(size + 1)}[r.below(3)])
}

func (r *dice) row(n int) marks.Marks {
	m := make(marks.Marks, n)
	for i := range m {
		m[i] = byte(r.below(4))
	}
	return m
}

// marked is marks for so many bytes, or none.
func (r *dice) marked(size, object int) (on, good bool, m marks.Marks) {
	if r.flag() {
		return false, false, nil
	}
	return true, r.flag(), r.row((size + object - 1) / object)
}

func (r *dice) size() int { return []int{0, 4096, r.below(4097), r.below(70)}[r.below(4)] }

func (r *dice) snap(num, object int) head.Snap {
	s := head.Snap{Num: num, Name: fmt.Sprint(r.name()[:1], num), Size: r.size(), Protected: r.flag()}
	s.MapOn, s.MapGood, s.Map = r.marked(s.Size, object)
	s.Link = r.link(s.Size)
	for s.Protected && r.below(3) > 0 {
		s.Children = append(s.Children, r.name())
	}
	slices.Sort(s.Children)
	s.Children = slices.Compact(s.Children)
	return s
}

// head is any good head.
func (r *dice) head() head.Head {
	h := head.Head{ID: r.below(1000), Size: r.size(), Object: 16 << r.below(5), Owner: r.below(9) - 1}
	h.MapOn, h.MapGood, h.Map = r.marked(h.Size, h.Object)
	h.Link = r.link(h.Size)
	for range []int{0, 1, 3, 16}[r.below(4)] {
		h.Seq += 1 + r.below(2)*r.below(5)
		h.Snaps = append(h.Snaps, r.snap(h.Seq, h.Object))
	}
	h.Seq += r.below(3)
	switch h.Intent = r.below(6); h.Intent {
	case 1:
		h.To = r.below(4097)
	case 2, 3:
		if len(h.Snaps) == 0 {
			h.Intent = 0
		} else {
			h.To = h.Snaps[r.below(len(h.Snaps))].Num
		}
	}
	return h
}

// number is one on an edge of something, or any.
func (r *dice) number() int {
	list := []int{-1, 0, 1, 2, 3, 4, 5, 6, 7, 8, 15, 16, 17, 32, 33, 64, 128, 256, 4095, 4096, 4097, 1 << 31, math.MaxInt, math.MinInt, -2, r.below(4097)}
	return list[r.below(len(list))]
}

// spoil changes one thing of a head.
func (r *dice) spoil(h *head.Head) {
	numbers := []*int{&h.ID, &h.Size, &h.Object, &h.Seq, &h.ParentSnap, &h.Overlap, &h.Owner, &h.Intent, &h.To}
	flags := []*bool{&h.MapOn, &h.MapGood}
	texts := []*string{&h.Parent}
	rows := []*marks.Marks{&h.Map}
	if len(h.Snaps) > 0 {
		s := &h.Snaps[r.below(len(h.Snaps))]
		numbers = append(numbers, &s.Num, &s.Size, &s.ParentSnap, &s.Overlap)
		flags = append(flags, &s.MapOn, &s.MapGood, &s.Protected)
		texts = append(texts, &s.Name, &s.Parent)
		rows = append(rows, &s.Map)
		if len(s.Children) > 0 {
			texts = append(texts, &s.Children[r.below(len(s.Children))])
		}
	}
	switch r.below(5) {
	case 0, 1:
		*numbers[r.below(len(numbers))] = r.number()
	case 2:
		f := flags[r.below(len(flags))]
		*f = !*f
	case 3:
		*texts[r.below(len(texts))] = append(badNames(), "a", "b", "0", "-", r.name())[r.below(len(badNames())+5)]
	case 4:
		m := rows[r.below(len(rows))]
		if *m = r.row(len(*m) + r.below(3) - min(1, len(*m))); len(*m) > 0 {
			(*m)[r.below(len(*m))] = byte(r.below(6))
		}
	}
}

func TestAnyHeads(t *testing.T) {
	r := dice(11)
	good := 0
	for range 3000 {
		h := r.head()
		if holds(t, h); !head.Good(h) {
			t.Fatalf("%+v: %q", h, complaints(h))
		}
		is(t, "what is put", first(head.Put(h)), h)
		for range 1 + r.below(3) {
			was := tidy(h)
			r.spoil(&h)
			holds(t, h)
			if head.Same(h, was) != same(h, was) {
				t.Fatalf("%+v and %+v: the same: %v", h, was, head.Same(h, was))
			}
		}
		if takes(t, []byte(modelText(h))) {
			good++
		}
	}
	if good < 300 || good > 2700 {
		t.Errorf("%d heads are good that were spoiled", good)
	}
}

// P11.1, P11.2: any bytes

func TestAnyBytes(t *testing.T) {
	r := dice(12)
	taken := 0
	for range 1500 {
		b := []byte(modelText(r.head()))
		for range 20 {
			c := bytes.Clone(b)
			switch at := r.below(len(c)); r.below(4) {
			case 0:
				c[at] ^= 1 << r.below(8)
			case 1:
				c[at] = byte(r.below(256))
			case 2:
				c = slices.Delete(c, at, min(at+1+r.below(9), len(c)))
			case 3:
				c = slices.Insert(c, at, make([]byte, 1+r.below(9))...)
			}
			if takes(t, c) {
				taken++
			}
		}
	}
	if taken < 300 {
		t.Errorf("only %d other texts were a head's", taken)
	}
}

func TestEachByteOfATextChanged(t *testing.T) {
	for s := range texts() {
		for i := range len(s) {
			for c := range 256 {
				b := []byte(s)
				b[i] = byte(c)
				takes(t, b)
			}
		}
	}
}

// P11.3: what is handed in is neither changed nor kept, and answers are new memory

// roomy is a list with spare room, in which something stands.
func roomy[L ~[]T, T any](list L, spare T) L {
	return append(slices.Clone(list), spare, spare, spare)[:len(list)]
}

// fill changes a list with all its spare room.
func fill[T any](list []T, x T) {
	for i := range list[:cap(list)] {
		list[:cap(list)][i] = x
	}
}

// spread is a head all of whose lists have spare room.
func spread(h head.Head) head.Head {
	h = tidy(h)
	h.Map = roomy(h.Map, 77)
	h.Snaps = roomy(h.Snaps, head.Snap{Num: 77})
	for i := range h.Snaps {
		s := &h.Snaps[i]
		s.Map, s.Children = roomy(s.Map, 77), roomy(s.Children, "spare")
	}
	return h
}

// scrawl changes all lists of a head, with their spare room.
func scrawl(h head.Head) {
	for _, s := range h.Snaps {
		fill(s.Map, 88)
		fill(s.Children, "scrawl")
	}
	fill(h.Map, 88)
	fill(h.Snaps, head.Snap{Num: 88})
}

// whole is all that stands in a head's lists, with their spare room.
func whole(h head.Head) string {
	s := fmt.Sprintf("%+v %v", h, h.Map[:cap(h.Map)])
	for _, one := range h.Snaps[:cap(h.Snaps)] {
		s += fmt.Sprintf(" %+v %v %q", one, one.Map[:cap(one.Map)], one.Children[:cap(one.Children)])
	}
	return s
}

// calls are all calls that are handed a head: what they answer, written out.
func calls() map[string]func(head.Head) string {
	return map[string]func(head.Head) string{
		"Good":    func(h head.Head) string { return fmt.Sprint(head.Good(h)) },
		"Put":     func(h head.Head) string { b, err := head.Put(h); return fmt.Sprint(b, err) },
		"Snap":    func(h head.Head) string { return fmt.Sprint(h.Snap("first"), h.Snap("x")) },
		"Number":  func(h head.Head) string { return fmt.Sprint(h.Number(2), h.Number(9)) },
		"Context": func(h head.Head) string { return fmt.Sprint(h.Context()) },
		"Copy":    func(h head.Head) string { return fmt.Sprintf("%+v", h.Copy()) },
		"Same": func(h head.Head) string {
			return fmt.Sprint(head.Same(h, full()), head.Same(plain(), h), head.Same(h, h))
		},
	}
}

func TestHeadsStayAsTheyAre(t *testing.T) {
	for _, h := range heads() {
		for what, do := range calls() {
			in := spread(h)
			was := whole(in)
			got := do(in)
			if whole(in) != was {
				t.Errorf("%s changes %+v", what, h)
			}
			scrawl(in)
			if again := do(spread(h)); again != got {
				t.Errorf("%s of %+v: %s, and then %s", what, h, got, again)
			}
		}
	}
}

func TestCopyIsNewMemory(t *testing.T) {
	for _, h := range heads() {
		in := spread(h)
		was := whole(in)
		c := in.Copy()
		scrawl(in)
		if !same(c, h) {
			t.Errorf("Copy keeps what it is handed: %+v", h)
		}
		in = spread(h)
		scrawl(in.Copy())
		if whole(in) != was {
			t.Errorf("Copy answers what it is handed: %+v", h)
		}
		apart(t, in.Copy())
	}
}

// apart tells of two lists of one head that share memory: each is filled with something else.
func apart(t *testing.T, h head.Head) {
	t.Helper()
	fill(h.Map, 255)
	for i, s := range h.Snaps {
		fill(s.Map, byte(i))
		fill(s.Children, fmt.Sprint(i))
	}
	for _, mark := range h.Map {
		if mark != 255 {
			t.Errorf("the head's marks are a snapshot's")
		}
	}
	for i, s := range h.Snaps {
		for _, mark := range s.Map {
			if int(mark) != i {
				t.Errorf("the marks of snapshot %d are another one's", i)
			}
		}
		for _, child := range s.Children {
			if child != fmt.Sprint(i) {
				t.Errorf("the children of snapshot %d are another one's", i)
			}
		}
	}
}

// A head whose snapshots share their lists is copied to one whose snapshots don't.
func TestCopyParts(t *testing.T) {
	h := many(3)
	row, children := marks.Marks{1, 2, 3}, []string{"a", "b"}
	h.Map = row
	for i := range h.Snaps {
		h.Snaps[i].Map, h.Snaps[i].Children = row, children
	}
	apart(t, h.Copy())
}

func TestTextsAreNewMemory(t *testing.T) {
	for _, h := range []head.Head{plain(), full(), many(16)} {
		in := spread(h)
		b := first(head.Put(in))
		scrawl(in)
		if string(b) != modelText(h) {
			t.Errorf("Put keeps what it is handed: %+v", h)
		}
		in = spread(h)
		was := whole(in)
		fill(first(head.Put(in)), 99)
		if whole(in) != was || string(first(head.Put(in))) != modelText(h) {
			t.Errorf("Put answers what is kept: %+v", h)
		}
		text := roomy([]byte(modelText(h)), 77)
		all := bytes.Clone(text[:cap(text)])
		got, err := head.Take(text)
		if err != nil || !bytes.Equal(text[:cap(text)], all) {
			t.Errorf("Take changes what it is handed: %+v, %v", h, err)
		}
		fill(text, 99)
		if !same(got, h) {
			t.Errorf("Take keeps what it is handed: %+v", h)
		}
		copy(text[:cap(text)], all)
		scrawl(got)
		if !bytes.Equal(text[:cap(text)], all) {
			t.Errorf("Take answers what it is handed: %+v", h)
		}
		got, err = head.Take(text)
		if err != nil || !same(got, h) {
			t.Errorf("Take answers another head then: %+v", got)
		}
		apart(t, got)
	}
}

func TestContextIsNewMemory(t *testing.T) {
	h := full()
	c := h.Context()
	fill(c.Snaps, 99)
	if !same(h, full()) || !slices.Equal(h.Context().Snaps, []int{4, 2, 1}) {
		t.Error("Context answers what is kept")
	}
	c = h.Context()
	h.Snaps[0].Num = 99
	if !slices.Equal(c.Snaps, []int{4, 2, 1}) {
		t.Error("Context keeps what it is handed")
	}
}
