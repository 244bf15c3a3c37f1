package store_test

import (
	"bytes"
	"errors"
	"maps"
	"math"
	"slices"
	"strings"
	"testing"

	"lamina/api"
	"lamina/store"
)

// dice is numbers that hang on its seed alone.
type dice uint64

func (r *dice) below(n int) int {
	*r = *r*6364136223846793005 + 1442695040888963407
	return int(uint64(*r)>>33) % n
}

// one is one of some values.
func one[T any](r *dice, list ...T) T { return list[r.below(len(list))] }

// thing is an object as the chapter tells it; each block that it has stands by itself.
type thing struct {
	data    string
	attrs   map[string]string
	extents [][]int
}

// things is a store as the chapter tells it.
type things struct {
	objects map[string]thing
	blocked map[int]bool
	used    []bool
}

func newThings(blocks int) *things {
	return &things{map[string]thing{}, map[int]bool{}, make([]bool, blocks)}
}

func (m *things) copy() *things {
	c := &things{map[string]thing{}, maps.Clone(m.blocked), slices.Clone(m.used)}
	for name, o := range m.objects {
		o.attrs = maps.Clone(o.attrs)
		o.extents = slices.Clone(o.extents)
		for i := range o.extents {
			o.extents[i] = slices.Clone(o.extents[i])
		}
		c.objects[name] = o
	}
	return c
}

func (m *things) free() int {
	n := 0
	for _, used := range m.used {
		if !used {
			n++
		}
	}
	return n
}

// hole is the blocks of the hole that is taken from next for n blocks.
func (m *things) hole(n int) []int {
	var fit, long, now []int
	for i := range len(m.used) + 1 {
		if i < len(m.used) && !m.used[i] {
			now = append(now, i)
			continue
		}
		if len(now) >= n && (fit == nil || len(now) < len(fit)) {
			fit = now
		}
		if len(now) > len(long) {
			long = now
		}
		now = nil
	}
	if fit != nil {
		return fit[:n]
	}
	return long
}

func good(name string) bool {
	return name != "" && len(name) <= 32 && strings.Trim(name, "!\"#$%&'()*+,-./0123456789:;<=>?@ABCDEFGHIJKLMNOPQRSTUVWXYZ[\\]^_`abcdefghijklmnopqrstuvwxyz{|}~") == ""
}

// do is an operation: the model itself is left as it is, and another one comes out.
func (m *things) do(name string, list []api.Step) (*things, []string, error) {
	if !good(name) || len(list) == 0 || len(list) > 16 {
		return m, nil, api.ErrRange
	}
	c := m.copy()
	old := c.objects[name].extents
	var told []string
	for _, step := range list {
		b, tells, err := c.step(name, step)
		if err != 0 {
			return m, nil, err
		}
		if tells {
			told = append(told, b)
		}
	}
	if !c.fit(name, old) {
		return m, nil, api.ErrFull
	}
	return c, told, nil
}

// fit brings the blocks to what is needed: one by one they go, and hole by hole they come.
func (m *things) fit(name string, extents [][]int) bool {
	o, there := m.objects[name]
	missing := (len(o.data) + 15) / 16
	for _, e := range extents {
		missing -= len(e)
	}
	if missing > m.free() {
		return false
	}
	for ; missing < 0; missing++ {
		last := extents[len(extents)-1]
		m.used[last[len(last)-1]] = false
		extents[len(extents)-1] = last[:len(last)-1]
		if len(last) == 1 {
			extents = extents[:len(extents)-1]
		}
	}
	for missing > 0 {
		e := m.hole(missing)
		missing -= len(e)
		extents = append(extents, slices.Clone(e))
		for _, i := range e {
			m.used[i] = true
		}
	}
	if o.extents = extents; there {
		m.objects[name] = o
	}
	return true
}

// step is one step of an operation. What it leaves isn't used, if there is an error.
func (m *things) step(name string, s api.Step) (string, bool, api.Errno) {
	o, there := m.objects[name]
	value, has := o.attrs[s.Name]
	if s.Kind >= api.Write && s.Kind <= api.GetAttr && !there {
		return "", false, api.ErrNone
	}
	yes := func(wrong bool, err api.Errno) (string, bool, api.Errno) {
		if wrong {
			return "", false, err
		}
		return "", false, 0
	}
	switch s.Kind {
	case api.NeedThere:
		return yes(!there, api.ErrNone)
	case api.NeedAbsent:
		return yes(there, api.ErrExists)
	case api.NeedAttr:
		return yes(!has || value != string(s.Data), api.ErrGuard)
	case api.NeedNoAttr:
		return yes(has, api.ErrGuard)
	case api.NeedAllowed:
		if s.At < 0 || s.At > 7 {
			return "", false, api.ErrRange
		}
		return yes(m.blocked[s.At], api.ErrBlocked)
	case api.Make:
		if !there {
			m.objects[name] = thing{attrs: map[string]string{}}
		}
		return "", false, 0
	case api.Drop:
		delete(m.objects, name)
		return "", false, 0
	case api.SetAttr:
		if !good(s.Name) || len(s.Data) > 1024 {
			return "", false, api.ErrRange
		}
		o.attrs[s.Name] = string(s.Data)
		return "", false, 0
	case api.DropAttr:
		delete(o.attrs, s.Name)
		return "", false, 0
	case api.GetAttr:
		return value, has, map[bool]api.Errno{false: api.ErrNone}[has]
	case api.Write, api.Zero, api.Cut, api.Read:
		return m.bytes(name, s)
	}
	return "", false, api.ErrForm
}

// bytes is a step that goes to an object's bytes: each byte is looked at by itself.
func (m *things) bytes(name string, s api.Step) (string, bool, api.Errno) {
	const most = 1 << 16
	o := m.objects[name]
	b := []byte(o.data)
	told, tells := "", false
	switch {
	case s.At < 0, s.Kind != api.Read && s.Kind != api.Zero && s.At > most, (s.Kind == api.Read || s.Kind == api.Zero) && s.Len < 0,
		s.Kind == api.Write && len(s.Data) > most-s.At:
		return "", false, api.ErrRange
	case s.Kind == api.Write:
		for i, c := range s.Data {
			for len(b) <= s.At+i {
				b = append(b, 0)
			}
			b[s.At+i] = c
		}
	case s.Kind == api.Cut:
		for len(b) < s.At {
			b = append(b, 0)
		}
		b = b[:s.At]
	default:
		tells = s.Kind == api.Read
		for i := range b {
			if i < s.At || i-s.At >= s.Len {
				continue
			}
			if tells {
				told += string(b[i : i+1])
			} else {
				b[i] = 0
			}
		}
	}
	o.data = string(b)
	m.objects[name] = o
	return told, tells, 0
}

// names that objects and attributes have, or can't have.

func (r *dice) name() string {
	if r.below(30) == 0 {
		return one(r, "", " ", "a b", "é", strings.Repeat("n", 33), "a\x00", "\x7f")
	}
	return one(r, "a", "b", "ab", "abc", "!", "~", strings.Repeat("n", 32))
}

func (r *dice) data() []byte {
	n := one(r, 0, 1, 3, 16, 17, 30, r.below(100))
	if r.below(60) == 0 {
		n = one(r, 1023, 1024, 1025, 1<<16, 1<<16+1)
	}
	return bytes.Repeat([]byte{byte('a' + r.below(26))}, n)
}

func (r *dice) place() int {
	if r.below(40) == 0 {
		return one(r, -1, 7, 8, 1<<16-1, 1<<16, 1<<16+1, math.MaxInt, math.MinInt)
	}
	return one(r, 0, 1, 7, 15, 16, 17, r.below(120))
}

// step is a step of any kind; the likelier ones are those that may be done.
func (r *dice) step() api.Step {
	kind := one(r, api.Make, api.Make, api.Write, api.Write, api.Write, api.Zero, api.Cut, api.SetAttr, api.SetAttr, api.DropAttr, api.Read, api.Read)
	switch r.below(12) {
	case 0, 1:
		kind = 1 + r.below(14)
	case 2:
		if r.below(8) == 0 {
			kind = one(r, 0, 15, -1, math.MinInt, math.MaxInt)
		}
	}
	s := api.Step{Kind: kind, At: r.place(), Len: r.place(), Name: r.name(), Data: r.data()}
	if kind == api.NeedAllowed {
		s.At = one(r, r.below(8), r.below(8), s.At)
	}
	if kind == api.NeedAttr && r.below(2) == 0 {
		s.Data = nil
	}
	return s
}

func (r *dice) steps() []api.Step {
	n := 1 + r.below(5)
	if r.below(10) == 0 {
		n = r.below(19)
	}
	var list []api.Step
	if r.below(2) == 0 {
		list = append(list, create())
	}
	for range n {
		list = append(list, r.step())
	}
	return list
}

// differs is in what a store isn't as the model, or "".
func differs(s *store.Store, m *things) string {
	if s.Free() != m.free() {
		return "Free"
	}
	for c := -1; c < 9; c++ {
		if s.Blocked(c) != m.blocked[c] {
			return "Blocked"
		}
	}
	for _, prefix := range []string{"", "a", "ab", "nn", "c", " "} {
		names := slices.DeleteFunc(slices.Sorted(maps.Keys(m.objects)), func(n string) bool { return !strings.HasPrefix(n, prefix) })
		if !slices.Equal(s.Names(prefix), names) {
			return "Names"
		}
	}
	for _, name := range []string{"a", "b", "ab", "abc", "!", "~", strings.Repeat("n", 32), "", "a b", "c"} {
		if what := differ(s, m, name); what != "" {
			return what + " of " + name
		}
	}
	return ""
}

// differ is in what an object isn't as the model's.
func differ(s *store.Store, m *things, name string) string {
	o, there := m.objects[name]
	size := len(o.data)
	if !there {
		size = -1
	}
	var list []string
	for _, key := range slices.Sorted(maps.Keys(o.attrs)) {
		list = append(list, key+"="+o.attrs[key])
	}
	var extents []api.Extent
	for _, e := range o.extents {
		extents = append(extents, api.Extent{At: e[0], Len: len(e)})
	}
	switch {
	case s.Size(name) != size:
		return "Size"
	case attrs(s, name) != strings.Join(list, " "):
		return "Attrs"
	case !slices.Equal(s.Extents(name), extents):
		return "Extents"
	}
	if !there {
		return ""
	}
	told, err := s.Do(name, read(0, 1<<16))
	if err != nil || string(told[0]) != o.data {
		return "Read"
	}
	return ""
}

// P7.1, P7.2, P7.3: all calls, in any order, are as the plain model's

func TestAnyCalls(t *testing.T) {
	errs := map[error]int{}
	for seed := range 400 {
		r := dice(seed)
		blocks := one(&r, 0, 3, 20, 40, 70, 9000)
		s, m := newStore(t, blocks), newThings(blocks)
		for range 120 {
			switch r.below(40) {
			case 0:
				c := one(&r, r.below(8), -1, 8)
				got := s.Block(c)
				if c >= 0 && c < 8 {
					m.blocked[c] = true
					want(t, "Block", got, nil)
				} else {
					want(t, "Block", got, api.ErrRange)
				}
			case 1:
				s = s.Copy()
			case 2:
				s = takes(t, string(s.Put()))
			default:
				name, list := r.name(), r.steps()
				if r.below(12) == 0 {
					list = append(list, drop())
				}
				before := s.Put()
				told, err := s.Do(name, list...)
				next, other, asked := m.do(name, list)
				if !errors.Is(err, asked) || !slices.Equal(texts(told), other) {
					t.Fatalf("row %d: Do(%q, %v): %q, %v; not %q, %v", seed, name, list, told, err, other, asked)
				}
				if err != nil && !bytes.Equal(s.Put(), before) {
					t.Fatalf("row %d: Do(%q, %v) is refused, and changes something", seed, name, list)
				}
				m = next
				errs[asked]++
			}
			if what := differs(s, m); what != "" {
				t.Fatalf("row %d: %s isn't as the model's", seed, what)
			}
		}
	}
	for _, err := range []error{nil, api.ErrRange, api.ErrForm, api.ErrFull, api.ErrExists, api.ErrNone, api.ErrGuard, api.ErrBlocked} {
		if errs[err] < 50 {
			t.Errorf("%d operations answer %v: too few", errs[err], err)
		}
	}
	if errs[nil] < 10000 {
		t.Errorf("%d operations are done: too few", errs[nil])
	}
}
