package snap_test

import (
	"errors"
	"fmt"
	"math"
	"slices"
	"testing"

	"lamina/api"
	"lamina/snap"
)

// dice is numbers that hang on its seed alone.
type dice uint64

func (r *dice) below(n int) int {
	*r = *r*6364136223846793005 + 1442695040888963407
	return int(uint64(*r)>>33) % n
}

// one is one of some values.
func one[T any](r *dice, list ...T) T { return list[r.below(len(list))] }

// moment is what an object was at one snapshot; those that were kept at once are of one group.
type moment struct {
	snap, group int
	data        string
}

// plain is an object as the chapter tells it, with each snapshot by itself.
type plain struct {
	there   bool
	head    string
	seq     int
	group   int // of the last moments that were kept
	moments []moment
}

// object is the model as an object.
func (m *plain) object() snap.Object {
	o := snap.Object{There: m.there, Data: []byte(m.head), Seq: m.seq}
	group := 0
	for _, x := range m.moments {
		if x.group != group {
			o.Clones = append(o.Clones, snap.Clone{Data: []byte(x.data)})
		}
		group = x.group
		last := &o.Clones[len(o.Clones)-1]
		last.Snaps = append(last.Snaps, x.snap)
	}
	return o
}

// at is what it is at a snapshot, - if it isn't there.
func (m *plain) at(s int) string {
	for _, x := range m.moments {
		if x.snap == s {
			return "+" + x.data
		}
	}
	if s < 0 || s > 0 && s <= m.seq || !m.there {
		return "-"
	}
	return "+" + m.head
}

// keeps does what is done before it changes, and tells whether there is room for it.
func (m *plain) keeps(c api.Context) bool {
	groups := map[int]bool{}
	for _, x := range m.moments {
		groups[x.group] = true
	}
	m.group++
	for s := m.seq + 1; s <= c.Seq; s++ {
		if m.there && slices.Contains(c.Snaps, s) {
			m.moments = append(m.moments, moment{s, m.group, m.head})
			groups[m.group] = true
		}
	}
	m.seq = c.Seq
	return len(groups) <= 16
}

// fits tells whether a context is good, and not below the object's.
func (m *plain) fits(c api.Context) bool {
	good := c.Seq >= 0 && c.Seq >= m.seq && len(c.Snaps) <= 16
	for i, s := range c.Snaps {
		good = good && s >= 1 && s <= c.Seq && (i == 0 || s < c.Snaps[i-1])
	}
	return good
}

// call is a call of the package, with all that it is handed.
type call struct {
	name  string
	c     api.Context
	at, n int
	data  string
}

func (x call) of(o snap.Object) (snap.Object, error) {
	switch x.name {
	case "Write":
		return snap.Write(o, x.c, x.at, []byte(x.data))
	case "Zero":
		return snap.Zero(o, x.c, x.at, x.n)
	case "Cut":
		return snap.Cut(o, x.c, x.n)
	case "Drop":
		return snap.Drop(o, x.c)
	case "Back":
		return snap.Back(o, x.c, x.at)
	}
	return snap.Trim(o, x.at)
}

// do is the model behind a call; with an error it is none.
func (m plain) do(x call) (*plain, error) {
	m.moments = slices.Clone(m.moments)
	if x.name == "Trim" {
		if x.at < 1 {
			return nil, api.ErrRange
		}
		m.moments = slices.DeleteFunc(m.moments, func(y moment) bool { return y.snap == x.at })
		return &m, nil
	}
	wrong := map[string]bool{
		"Write": x.at < 0 || x.at > 256 || x.at+len(x.data) > 256,
		"Zero":  x.at < 0 || x.n < 0,
		"Cut":   x.n < 0 || x.n > 256,
		"Back":  !slices.Contains(x.c.Snaps, x.at),
	}[x.name]
	switch {
	case !m.fits(x.c), wrong:
		return nil, api.ErrRange
	case !m.there && (x.name == "Zero" || x.name == "Cut"):
		return nil, api.ErrNone
	}
	back := m.at(x.at)
	if !m.keeps(x.c) {
		return nil, api.ErrRange
	}
	m.change(x, back)
	return &m, nil
}

// change changes the head, byte by byte.
func (m *plain) change(x call, back string) {
	b := []byte(m.head)
	switch x.name {
	case "Write":
		for len(b) < x.at+len(x.data) {
			b = append(b, 0)
		}
		for i := range len(x.data) {
			b[x.at+i] = x.data[i]
		}
		m.there = true
	case "Zero":
		for i := range b {
			if i >= x.at && i-x.at < x.n {
				b[i] = 0
			}
		}
	case "Cut":
		for len(b) > x.n {
			b = b[:len(b)-1]
		}
	case "Drop":
		m.there, b = false, nil
	case "Back":
		m.there, b = back[0] == '+', []byte(back[1:])
	}
	m.head = string(b)
}

// image is the snapshots of an image, of which a context tells.
type image struct {
	seq   int
	snaps []int // rising
}

func (i *image) context() api.Context {
	c := api.Context{Seq: i.seq, Snaps: slices.Clone(i.snaps)}
	slices.Reverse(c.Snaps)
	return c
}

// step makes or removes a snapshot at times; a removed one is told, or 0.
func (i *image) step(r *dice) int {
	switch n := r.below(12); {
	case n < 4 && len(i.snaps) < 16:
		i.seq += one(r, 1, 1, 1, 2, 3)
		i.snaps = append(i.snaps, i.seq)
	case n < 6 && len(i.snaps) > 0:
		at := r.below(len(i.snaps))
		gone := i.snaps[at]
		i.snaps = slices.Delete(i.snaps, at, at+1)
		return gone
	}
	return 0
}

// place is a place in an object, or one that can't be.
func (r *dice) place() int {
	if r.below(25) == 0 {
		return one(r, -1, 255, 256, 257, math.MaxInt, math.MinInt)
	}
	return one(r, 0, 0, 1, 2, 5, r.below(12), r.below(12), r.below(260))
}

func (r *dice) call(i *image) call {
	x := call{name: one(r, "Write", "Write", "Write", "Zero", "Cut", "Drop", "Back", "Back"), c: i.context(), at: r.place(), n: r.place()}
	for range one(r, 0, 1, 3, r.below(9), r.below(9), r.below(270)) {
		x.data += string(rune('a' + r.below(26)))
	}
	if x.name == "Back" && len(i.snaps) > 0 && r.below(8) > 0 {
		x.at = i.snaps[r.below(len(i.snaps))]
	}
	if r.below(15) == 0 {
		r.spoil(&x.c)
	}
	return x
}

// spoil changes a context, so that it is bad, or not of the image.
func (r *dice) spoil(c *api.Context) {
	switch r.below(6) {
	case 0:
		c.Seq -= 1 + r.below(4)
	case 1:
		c.Seq = one(r, -1, math.MinInt)
	case 2:
		slices.Reverse(c.Snaps)
	case 3:
		c.Snaps = append(c.Snaps, one(r, 0, -1, 1, c.Seq, c.Seq+1))
	case 4:
		c.Snaps = append([]int{c.Seq + r.below(3)}, c.Snaps...)
	case 5:
		c.Snaps = nil
	}
}

// shows is what an object is at all snapshots that are about.
func shows(o snap.Object, upTo int) []string {
	var l []string
	for s := range upTo + 3 {
		b, there := snap.At(o, s)
		l = append(l, map[bool]string{false: "-", true: "+"}[there]+string(b))
	}
	return l
}

// P9.1, P9.2: all calls, in any order, are as the plain model's

func TestAnyCalls(t *testing.T) {
	errs, full := map[error]int{}, 0
	for seed := range 400 {
		r := dice(seed)
		o, m, i := snap.Object{}, &plain{}, &image{}
		for range 100 {
			x := r.call(i)
			if gone := i.step(&r); gone > 0 && r.below(3) > 0 {
				x = call{name: "Trim", at: one(&r, gone, gone, gone, r.below(20)-1)}
			}
			before := shows(o, i.seq)
			got, err := x.of(o)
			next, asked := m.do(x)
			if !errors.Is(err, asked) {
				t.Fatalf("row %d: %v of %s: %s, %v; not %v", seed, x, show(o), show(got), err, asked)
			}
			if shown := shows(o, i.seq); !slices.Equal(shown, before) {
				t.Fatalf("row %d: %v changes what it is handed from %q to %q", seed, x, before, shown)
			}
			if errs[asked]++; err != nil {
				refuses(t, x.name, got, err, asked)
				if len(o.Clones) == 16 && m.fits(x.c) {
					full++
				}
				continue
			}
			now := shows(got, i.seq)
			for s, was := range before {
				stays := slices.Contains(x.c.Snaps, s) || x.name == "Trim" && s != x.at
				if stays && now[s] != was {
					t.Fatalf("row %d: %v changes what %s is at %d from %q to %q", seed, x, show(o), s, was, now[s])
				}
			}
			o, m = got, next
			same(t, fmt.Sprintf("row %d: %v", seed, x), o, m)
		}
	}
	for _, err := range []error{api.ErrRange, api.ErrNone} {
		if errs[err] < 500 {
			t.Errorf("%d calls answer %v: too few", errs[err], err)
		}
	}
	if errs[nil] < 20000 || full < 100 {
		t.Errorf("%d calls are done, %d refused of full objects: too few", errs[nil], full)
	}
}

// same holds an object against the model's.
func same(t *testing.T, what string, o snap.Object, m *plain) {
	t.Helper()
	is(t, what, o, nil, m.object())
	for s := -1; s <= m.seq+2; s++ {
		b, there := snap.At(o, s)
		if asked := m.at(s); there != (asked[0] == '+') || string(b) != asked[1:] {
			t.Fatalf("%s: at %d it is %q, %v; not %q", what, s, b, there, asked)
		}
	}
	if snap.Empty(o) != (!m.there && len(m.moments) == 0) {
		t.Fatalf("%s: Empty is %v", what, snap.Empty(o))
	}
	b, err := snap.Put(o)
	if err != nil || string(b) != text(o) {
		t.Fatalf("%s: Put: %q, %v", what, b, err)
	}
	got, err := snap.Take(b)
	is(t, what+": Take", got, err, o)
}

// P9.3: what is handed in is neither changed nor kept, and answers are new memory

// roomy is a list with spare room, in which something stands.
func roomy[T any](list []T, spare T) []T {
	l := append(slices.Clone(list), spare, spare, spare)
	return l[:len(list)]
}

// loose is the same object in memory of its own, each list with spare room.
func loose(o snap.Object) snap.Object {
	o.Data = roomy(o.Data, 's')
	o.Clones = roomy(o.Clones, clone("spare", 77))
	for i, c := range o.Clones {
		o.Clones[i] = snap.Clone{Snaps: roomy(c.Snaps, 88), Data: roomy(c.Data, 's')}
	}
	return o
}

// whole is an object with what stands in its lists' spare room.
func whole(o snap.Object) string {
	s := fmt.Sprintf("%q", o.Data[:cap(o.Data)])
	for _, c := range o.Clones[:cap(o.Clones)] {
		s += fmt.Sprintf(" %v%q", c.Snaps[:cap(c.Snaps)], c.Data[:cap(c.Data)])
	}
	return show(o) + s
}

// spoil changes all memory that an object has, list by list with its spare room, each to something else.
func spoil(o snap.Object) {
	n := 100
	bytesOf := func(b []byte) {
		n++
		for i := range b[:cap(b)] {
			b[:cap(b)][i] = byte(n)
		}
	}
	bytesOf(o.Data)
	for i, c := range o.Clones[:cap(o.Clones)] {
		bytesOf(c.Data)
		n++
		for i := range c.Snaps[:cap(c.Snaps)] {
			c.Snaps[:cap(c.Snaps)][i] = n
		}
		o.Clones[:cap(o.Clones)][i] = snap.Clone{}
	}
}

// apart tells whether no two of an object's lists share memory: each keeps its own when the others are changed.
func apart(t *testing.T, what string, o snap.Object) {
	t.Helper()
	var rows [][]byte
	var lists [][]int
	rows = append(rows, o.Data)
	for _, c := range o.Clones {
		rows, lists = append(rows, c.Data), append(lists, c.Snaps)
	}
	for i, b := range rows {
		for k := range b[:cap(b)] {
			b[:cap(b)][k] = byte(i + 1)
		}
	}
	for i, l := range lists {
		for k := range l[:cap(l)] {
			l[:cap(l)][k] = i + 1
		}
	}
	for i, b := range rows {
		if slices.ContainsFunc(b[:cap(b)], func(c byte) bool { return c != byte(i+1) }) {
			t.Errorf("%s: a row of its bytes shares memory with another", what)
		}
	}
	for i, l := range lists {
		if slices.ContainsFunc(l[:cap(l)], func(n int) bool { return n != i+1 }) {
			t.Errorf("%s: a list of its snapshots shares memory with another", what)
		}
	}
}

func TestOwnMemory(t *testing.T) {
	from := object("head", 5, clone("a", 1, 2), clone("bb", 3), clone("c", 4))
	snaps := []int{8, 7, 3, 1}
	for _, x := range []call{
		{name: "Write", at: 1, data: "xy"}, {name: "Write", at: 6, data: "xy"}, {name: "Write"}, {name: "Zero", n: 2}, {name: "Zero", at: 9}, {name: "Cut", n: 2},
		{name: "Cut", n: 9}, {name: "Drop"}, {name: "Back", at: 1}, {name: "Back", at: 3}, {name: "Back", at: 7}, {name: "Trim", at: 1}, {name: "Trim", at: 2},
		{name: "Trim", at: 3}, {name: "Trim", at: 4}, {name: "Trim", at: 9},
	} {
		for _, seq := range []int{5, 8} {
			x.c = api.Context{Seq: seq, Snaps: roomy(snaps, 99)}
			if seq == 5 {
				x.c.Snaps = roomy(snaps[2:], 99)
				x.at = min(x.at, 3)
			}
			handed := loose(from)
			was, list := whole(handed), fmt.Sprint(x.c.Snaps[:cap(x.c.Snaps)])
			got, err := x.of(handed)
			if err != nil || whole(handed) != was || fmt.Sprint(x.c.Snaps[:cap(x.c.Snaps)]) != list {
				t.Errorf("%v changes what it is handed: %s, %v; %v", x, whole(handed), err, x.c)
			}
			is, of := show(got), got
			spoil(handed)
			for i := range x.c.Snaps[:cap(x.c.Snaps)] {
				x.c.Snaps[:cap(x.c.Snaps)][i] = 55
			}
			if show(of) != is {
				t.Errorf("%v keeps what it is handed: %s, not %s", x, show(of), is)
			}
			apart(t, x.name, of)
		}
	}
}

func TestOwnMemoryOfBytes(t *testing.T) {
	data := roomy([]byte("data"), 's')
	o, err := snap.Write(snap.Object{}, context(0), 0, data)
	copy(data[:cap(data)], "spoiled")
	is(t, "Write", o, err, object("data", 0))
	data = roomy([]byte("da"), 's')
	if _, err = snap.Write(object("longer", 0), context(0), 3, data); err != nil || string(data[:cap(data)])[:5] != "dasss" {
		t.Errorf("Write changes its bytes to %q", data[:cap(data)])
	}
	// The bytes of a head may be handed in as those that are written to it.
	o = object("abcdef", 0)
	o, err = snap.Write(o, context(0), 2, o.Data[:4])
	is(t, "Write of its own bytes", o, err, object("ababcd", 0))
	for s, was := range []string{"head", "past"} {
		o := loose(object("head", 1, clone("past", 1)))
		got, there := snap.At(o, s)
		spoil(o)
		if !there || string(got) != was {
			t.Errorf("At(%d) keeps what it is handed: %q", s, got)
		}
		o = loose(object("head", 1, clone("past", 1)))
		before := whole(o)
		got, _ = snap.At(o, s)
		copy(got[:cap(got)], "spoiled")
		if whole(o) != before {
			t.Errorf("At(%d) answers what it is handed: %s", s, whole(o))
		}
	}
}

func TestOwnMemoryOfTexts(t *testing.T) {
	from := object("head", 5, clone("a", 1, 2), clone("bb", 3), clone("c", 4))
	o := loose(from)
	was := whole(o)
	b, err := snap.Put(o)
	if err != nil || whole(o) != was || snap.Empty(o) || !snap.Good(o) || whole(o) != was {
		t.Errorf("Put changes what it is handed: %s, %v", whole(o), err)
	}
	if spoil(o); string(b) != text(from) {
		t.Errorf("Put keeps what it is handed: %q", b)
	}
	in := roomy(b, 's')
	got, err := snap.Take(in)
	if string(in[:cap(in)])[:len(b)+3] != text(from)+"sss" {
		t.Errorf("Take changes what it is handed: %q", in[:cap(in)])
	}
	for i := range in {
		in[i] = 'x'
	}
	is(t, "Take", got, err, from)
	apart(t, "Take", got)
}
