package store_test

import (
	"bytes"
	"errors"
	"math"
	"slices"
	"strings"
	"testing"

	"lamina/api"
	"lamina/store"
	"lamina/wire"
)

// A step of each kind.

func needThere() api.Step           { return api.Step{Kind: api.NeedThere} }
func needAbsent() api.Step          { return api.Step{Kind: api.NeedAbsent} }
func needAttr(n, v string) api.Step { return api.Step{Kind: api.NeedAttr, Name: n, Data: []byte(v)} }
func needNoAttr(n string) api.Step  { return api.Step{Kind: api.NeedNoAttr, Name: n} }
func needAllowed(c int) api.Step    { return api.Step{Kind: api.NeedAllowed, At: c} }
func create() api.Step              { return api.Step{Kind: api.Make} }
func drop() api.Step                { return api.Step{Kind: api.Drop} }
func write(at int, b string) api.Step {
	return api.Step{Kind: api.Write, At: at, Data: []byte(b)}
}
func zero(at, n int) api.Step      { return api.Step{Kind: api.Zero, At: at, Len: n} }
func cut(at int) api.Step          { return api.Step{Kind: api.Cut, At: at} }
func setAttr(n, v string) api.Step { return api.Step{Kind: api.SetAttr, Name: n, Data: []byte(v)} }
func dropAttr(n string) api.Step   { return api.Step{Kind: api.DropAttr, Name: n} }
func read(at, n int) api.Step      { return api.Step{Kind: api.Read, At: at, Len: n} }
func getAttr(n string) api.Step    { return api.Step{Kind: api.GetAttr, Name: n} }

// row is extents, each of two numbers.
func row(numbers ...int) []api.Extent {
	var list []api.Extent
	for l := numbers; len(l) > 0; l = l[2:] {
		list = append(list, api.Extent{At: l[0], Len: l[1]})
	}
	return list
}

func must(t *testing.T, err error) {
	t.Helper()
	if err != nil {
		t.Fatal(err)
	}
}

func want(t *testing.T, what string, got, asked error) {
	t.Helper()
	if !errors.Is(got, asked) {
		t.Errorf("%s: %v, not %v", what, got, asked)
	}
}

func newStore(t *testing.T, blocks int) *store.Store {
	t.Helper()
	s, err := store.New(blocks)
	if err != nil || s == nil {
		t.Fatalf("New(%d): %v, %v", blocks, s, err)
	}
	return s
}

// does is an operation that is done, and tells this.
func does(t *testing.T, s *store.Store, name string, steps []api.Step, told ...string) {
	t.Helper()
	got, err := s.Do(name, steps...)
	if err != nil || !slices.Equal(texts(got), told) {
		t.Errorf("Do(%q, %v): %q, %v; not %q", name, steps, texts(got), err, told)
	}
}

// refuses is an operation that isn't done, and nothing is changed by it.
func refuses(t *testing.T, s *store.Store, asked error, name string, steps ...api.Step) {
	t.Helper()
	before, free := s.Put(), s.Free()
	told, err := s.Do(name, steps...)
	if want(t, "Do", err, asked); told != nil || !bytes.Equal(s.Put(), before) || s.Free() != free {
		t.Errorf("Do(%q, %v) is refused, tells %q, and changes %q to %q", name, steps, told, before, s.Put())
	}
}

func texts(list [][]byte) []string {
	var l []string
	for _, b := range list {
		l = append(l, string(b))
	}
	return l
}

// steps is the steps of an operation.
func steps(l ...api.Step) []api.Step { return l }

// holds is what an object has: its bytes and its extents.
func holds(t *testing.T, s *store.Store, name, data string, extents ...int) {
	t.Helper()
	does(t, s, name, steps(read(0, math.MaxInt)), data)
	if s.Size(name) != len(data) {
		t.Errorf("%s: Size is %d, not %d", name, s.Size(name), len(data))
	}
	if got := s.Extents(name); !slices.Equal(got, row(extents...)) {
		t.Errorf("%s: its extents are %v, not %v", name, got, extents)
	}
}

// attrs is an object's attributes, as "name=value name=value".
func attrs(s *store.Store, name string) string {
	var l []string
	for _, a := range s.Attrs(name) {
		l = append(l, a.Name+"="+string(a.Value))
	}
	return strings.Join(l, " ")
}

func x(n int) string { return strings.Repeat("x", n) }

func noughts(n int) string { return strings.Repeat("\x00", n) }

// P7.1: New

func TestNew(t *testing.T) {
	for _, n := range []int{-1, 1<<16 + 1, 1 << 32, math.MaxInt, math.MinInt} {
		s, err := store.New(n)
		if want(t, "New", err, api.ErrRange); s != nil {
			t.Errorf("New(%d) answers a store beside its error", n)
		}
	}
	for _, n := range []int{0, 1, 1 << 16} {
		s := newStore(t, n)
		if s.Free() != n || s.Names("") != nil || s.Size("a") != -1 || s.Attrs("a") != nil || s.Extents("a") != nil {
			t.Errorf("New(%d): %d free, objects %q", n, s.Free(), s.Names(""))
		}
		for c := -1; c <= 8; c++ {
			if s.Blocked(c) {
				t.Errorf("New(%d): client %d is blocked", n, c)
			}
		}
	}
}

// P7.1: names, and how many steps there are

func TestNames(t *testing.T) {
	all := ""
	for c := byte(0x21); c <= 0x7e; c++ {
		all += string(rune(c))
	}
	s := newStore(t, 4)
	for _, name := range []string{"!", "~", "a", all[:32], all[32:64], all[62:], x(32)} {
		does(t, s, name, steps(needAbsent(), create(), setAttr(name, "v"), getAttr(name)), "v")
		if s.Size(name) != 0 || attrs(s, name) != name+"=v" {
			t.Errorf("%q isn't made", name)
		}
	}
	for _, name := range []string{"", " ", "a b", " a", "a ", "\x20", "\x7f", "a\x7f", "\x00", "a\x00", "\n", "\xff", "\x80", "é", "aé", x(33), x(32) + " ", x(1000)} {
		refuses(t, s, api.ErrRange, name, create())
		refuses(t, s, api.ErrRange, name, needThere())
		refuses(t, s, api.ErrRange, name, api.Step{Kind: 99})
		refuses(t, s, api.ErrRange, "a", setAttr(name, "v"))
		if s.Size(name) != -1 || s.Attrs(name) != nil || s.Extents(name) != nil {
			t.Errorf("%q is there", name)
		}
	}
}

func TestNumberOfSteps(t *testing.T) {
	s := newStore(t, 4)
	for n := range 40 {
		list := slices.Repeat(steps(create()), n)
		if n >= 1 && n <= 16 {
			does(t, s, "a", list)
		} else {
			refuses(t, s, api.ErrRange, "b", list...)
		}
	}
	refuses(t, s, api.ErrRange, "a", []api.Step{}...)
	refuses(t, s, api.ErrRange, "a b")
	refuses(t, s, api.ErrRange, "a", slices.Repeat(steps(api.Step{Kind: 99}), 17)...)
	does(t, s, "a", append(slices.Repeat(steps(write(0, "x")), 15), read(0, 1)), "x")
}

// P7.1: kinds that aren't

func TestOtherKinds(t *testing.T) {
	s := newStore(t, 4)
	does(t, s, "a", steps(create()))
	for _, kind := range []int{0, 15, 16, -1, -8, 99, 256 + 6, 1<<32 + 6, math.MaxInt, math.MinInt} {
		refuses(t, s, api.ErrForm, "a", api.Step{Kind: kind})
		refuses(t, s, api.ErrForm, "b", api.Step{Kind: kind, At: -1, Len: -1, Name: "a", Data: []byte("b")})
		refuses(t, s, api.ErrForm, "a", write(0, "x"), api.Step{Kind: kind}, needAbsent())
		refuses(t, s, api.ErrExists, "a", needAbsent(), api.Step{Kind: kind})
	}
}

// P7.1: NeedThere, NeedAbsent, Make and Drop

func TestThere(t *testing.T) {
	s := newStore(t, 4)
	refuses(t, s, api.ErrNone, "a", needThere())
	refuses(t, s, api.ErrNone, "a", needAbsent(), needThere())
	refuses(t, s, api.ErrExists, "a", create(), needAbsent())
	refuses(t, s, api.ErrNone, "a", create(), drop(), needThere())
	does(t, s, "a", steps(needAbsent()))
	does(t, s, "a", steps(drop(), needAbsent()))
	does(t, s, "a", steps(create(), write(0, "x"), drop()))
	if s.Size("a") != -1 || s.Free() != 4 || s.Names("") != nil {
		t.Errorf("nothing was made: %d, %q", s.Size("a"), s.Names(""))
	}
	does(t, s, "a", steps(needAbsent(), create(), needThere()))
	holds(t, s, "a", "")
	does(t, s, "a", steps(needThere(), setAttr("k", "v"), write(3, "hi")))
	does(t, s, "a", steps(create(), read(0, 9), getAttr("k")), "\x00\x00\x00hi", "v")
	holds(t, s, "a", "\x00\x00\x00hi", 0, 1)
	refuses(t, s, api.ErrExists, "a", needAbsent())
	refuses(t, s, api.ErrNone, "b", needThere())
	does(t, s, "a", steps(drop(), needAbsent(), create(), needThere(), needNoAttr("k"), read(0, 9)), "")
	if s.Size("a") != 0 || attrs(s, "a") != "" || s.Free() != 4 {
		t.Errorf("dropped and made: %d bytes, attributes %s, %d free", s.Size("a"), attrs(s, "a"), s.Free())
	}
	does(t, s, "a", steps(drop(), drop()))
	if s.Size("a") != -1 || s.Attrs("a") != nil || s.Extents("a") != nil {
		t.Errorf("dropped: %d bytes, attributes %s", s.Size("a"), attrs(s, "a"))
	}
}

func TestDropAmongOthers(t *testing.T) {
	s := newStore(t, 8)
	for _, name := range []string{"a", "b", "c"} {
		does(t, s, name, steps(create(), write(0, name+x(16)), setAttr("k", name)))
	}
	does(t, s, "b", steps(drop()))
	holds(t, s, "a", "a"+x(16), 0, 2)
	holds(t, s, "c", "c"+x(16), 4, 2)
	if s.Size("b") != -1 || s.Free() != 4 || !slices.Equal(s.Names(""), []string{"a", "c"}) || attrs(s, "c") != "k=c" {
		t.Errorf("b is dropped: %q, %d free", s.Names(""), s.Free())
	}
}

// P7.1: NeedAttr and NeedNoAttr

func TestNeedAttr(t *testing.T) {
	s := newStore(t, 4)
	for _, name := range []string{"k", "", "a b", x(99)} {
		refuses(t, s, api.ErrGuard, "a", needAttr(name, ""))
		refuses(t, s, api.ErrGuard, "a", create(), needAttr(name, ""))
		does(t, s, "b", steps(needNoAttr(name)))
		does(t, s, "b", steps(needNoAttr(name), needAbsent()))
	}
	does(t, s, "a", steps(create(), needNoAttr("k"), setAttr("k", "v"), needAttr("k", "v"), setAttr("e", "")))
	does(t, s, "a", steps(needAttr("k", "v"), needAttr("e", ""), needNoAttr("v"), needNoAttr(""), needNoAttr("K")))
	for _, v := range []string{"", "w", "vv", "V", "v\x00", "\x00v"} {
		refuses(t, s, api.ErrGuard, "a", needAttr("k", v))
	}
	refuses(t, s, api.ErrGuard, "a", needAttr("e", "\x00"))
	refuses(t, s, api.ErrGuard, "a", needNoAttr("k"))
	refuses(t, s, api.ErrGuard, "a", needNoAttr("e"))
	refuses(t, s, api.ErrGuard, "a", drop(), needAttr("k", "v"))
	refuses(t, s, api.ErrGuard, "b", needAttr("k", "v"))
	does(t, s, "a", steps(dropAttr("k"), needNoAttr("k"), setAttr("k", "w"), needAttr("k", "w")))
	does(t, s, "a", steps(api.Step{Kind: api.NeedAttr, Name: "e"}, api.Step{Kind: api.NeedAttr, Name: "e", Data: []byte{}}))
}

// P7.1: NeedAllowed, Block and Blocked

func TestBlock(t *testing.T) {
	s := newStore(t, 4)
	outside := []int{-1, 8, 9, 64, 1 << 32, math.MaxInt, math.MinInt}
	blocked := [8]bool{}
	for _, c := range []int{0, 7, 3, 3} {
		must(t, s.Block(c))
		blocked[c] = true
		for i, b := range blocked {
			if s.Blocked(i) != b {
				t.Errorf("Blocked(%d) is %v", i, !b)
			}
			if b {
				refuses(t, s, api.ErrBlocked, "a", needAllowed(i))
			} else {
				does(t, s, "a", steps(needAllowed(i)))
			}
		}
	}
	before := s.Put()
	for _, c := range outside {
		if want(t, "Block", s.Block(c), api.ErrRange); s.Blocked(c) {
			t.Errorf("Blocked(%d)", c)
		}
		refuses(t, s, api.ErrRange, "a", needAllowed(c))
		refuses(t, s, api.ErrRange, "a", create(), needAllowed(c), needAllowed(3))
	}
	refuses(t, s, api.ErrBlocked, "a", needAllowed(7), needAllowed(8))
	if !bytes.Equal(s.Put(), before) {
		t.Error("a Block that is refused has changed something")
	}
	does(t, s, "a", steps(create(), needAllowed(1), write(0, "x")))
	if s.Size("a") != 1 {
		t.Error("who isn't asked for stands in the way")
	}
}

// P7.1: what needs the object says so ahead of its own errors

func TestNotThere(t *testing.T) {
	s := newStore(t, 4)
	for _, step := range []api.Step{
		write(0, "x"), write(-1, "x"), write(1<<16, "x"), write(0, ""), zero(0, 1), zero(-1, -1), cut(0), cut(-1), cut(1<<16 + 1),
		setAttr("k", "v"), setAttr("", ""), setAttr("k", x(1025)), dropAttr("k"), dropAttr(""), read(0, 1), read(-1, 1), read(0, -1), getAttr("k"), getAttr(""),
	} {
		refuses(t, s, api.ErrNone, "a", step)
		refuses(t, s, api.ErrNone, "a", create(), drop(), step)
		if does(t, s, "b", steps(create())); step.At >= 0 {
			refuses(t, s, api.ErrNone, "b", write(0, x(20)), setAttr("k", "v"), drop(), step)
		}
	}
}

// P7.1: Write

func TestWrite(t *testing.T) {
	s := newStore(t, 1<<16)
	does(t, s, "a", steps(create(), write(2, "hi")))
	holds(t, s, "a", "\x00\x00hi", 0, 1)
	does(t, s, "a", steps(write(0, "ab")))
	holds(t, s, "a", "abhi", 0, 1)
	does(t, s, "a", steps(write(3, "jk")))
	holds(t, s, "a", "abhjk", 0, 1)
	does(t, s, "a", steps(write(1, "-")))
	holds(t, s, "a", "a-hjk", 0, 1)
	does(t, s, "a", steps(write(5, "l"), write(8, "m"), read(4, 9)), "kl\x00\x00m")
	does(t, s, "a", steps(write(99, ""), write(1<<16, ""), write(0, "")))
	holds(t, s, "a", "a-hjkl\x00\x00m", 0, 1)
	does(t, s, "a", steps(cut(3), write(6, "n")))
	holds(t, s, "a", "a-h\x00\x00\x00n", 0, 1)
	does(t, s, "a", steps(cut(2), cut(7), write(6, "o")))
	holds(t, s, "a", "a-"+noughts(4)+"o", 0, 1)
}

func TestWriteErrors(t *testing.T) {
	s := newStore(t, 1<<16)
	does(t, s, "a", steps(create(), write(0, "some")))
	for _, step := range []api.Step{
		write(-1, "x"), write(-1, ""), write(-1, "xx"), write(math.MinInt, "x"), write(math.MinInt, ""),
		write(1<<16, "x"), write(1<<16+1, ""), write(1<<16-1, "xx"), write(0, x(1<<16+1)), write(1, x(1<<16)),
		write(math.MaxInt, "x"), write(math.MaxInt, ""), write(math.MaxInt-1, "xxx"), write(1<<32, "x"), write(0, x(1<<17)),
	} {
		refuses(t, s, api.ErrRange, "a", step)
		refuses(t, s, api.ErrRange, "a", write(9, "y"), step)
	}
	does(t, s, "a", steps(write(1<<16-1, "x"), read(1<<16-3, 9)), "\x00\x00x")
	does(t, s, "a", steps(write(0, x(1<<16))))
	holds(t, s, "a", x(1<<16), 0, 1, 1, 4095)
	does(t, s, "a", steps(write(1<<16-2, "yz"), read(1<<16-3, 9)), "xyz")
}

// P7.1: Zero

func TestZero(t *testing.T) {
	for _, z := range []struct {
		at, n int
		data  string
	}{
		{0, 0, "abcdef"}, {3, 0, "abcdef"}, {6, 0, "abcdef"}, {0, 1, "\x00bcdef"}, {2, 3, "ab\x00\x00\x00f"},
		{5, 1, "abcde\x00"}, {5, 2, "abcde\x00"}, {0, 6, noughts(6)}, {0, 7, noughts(6)}, {6, 1, "abcdef"}, {7, 1, "abcdef"},
		{4, math.MaxInt, "abcd\x00\x00"}, {math.MaxInt, 1, "abcdef"}, {math.MaxInt, math.MaxInt, "abcdef"}, {1 << 16, 1, "abcdef"},
		{0, math.MaxInt, noughts(6)}, {1<<32 + 1, 1, "abcdef"}, {1, 1<<32 + 1, "a" + noughts(5)},
	} {
		s := newStore(t, 4)
		does(t, s, "a", steps(create(), write(0, "abcdef"), zero(z.at, z.n)))
		holds(t, s, "a", z.data, 0, 1)
		does(t, s, "a", steps(write(0, "abcdef")))
		does(t, s, "a", steps(zero(z.at, z.n)))
		holds(t, s, "a", z.data, 0, 1)
	}
	s := newStore(t, 4)
	does(t, s, "a", steps(create(), zero(0, 5)))
	holds(t, s, "a", "")
	does(t, s, "a", steps(write(0, "abc")))
	for _, step := range []api.Step{zero(-1, 1), zero(1, -1), zero(-1, -1), zero(math.MinInt, 0), zero(0, math.MinInt), zero(-1, math.MaxInt), zero(math.MaxInt, -1)} {
		refuses(t, s, api.ErrRange, "a", step)
		refuses(t, s, api.ErrRange, "a", zero(0, 2), step)
	}
}

// P7.1: Cut

func TestCut(t *testing.T) {
	s := newStore(t, 1<<16)
	does(t, s, "a", steps(create(), write(0, "abcdef"), cut(4)))
	holds(t, s, "a", "abcd", 0, 1)
	does(t, s, "a", steps(cut(6)))
	holds(t, s, "a", "abcd\x00\x00", 0, 1)
	does(t, s, "a", steps(write(0, "abcdef"), cut(2), cut(6), read(0, 6)), "ab"+noughts(4))
	does(t, s, "a", steps(write(0, "abcdef"), cut(6), cut(3), write(4, "z")))
	holds(t, s, "a", "abc\x00z", 0, 1)
	does(t, s, "a", steps(cut(0)))
	holds(t, s, "a", "")
	for _, at := range []int{-1, 1<<16 + 1, 1 << 32, math.MaxInt, math.MinInt} {
		refuses(t, s, api.ErrRange, "a", cut(at))
		refuses(t, s, api.ErrRange, "a", cut(5), cut(at))
	}
	does(t, s, "a", steps(cut(1<<16)))
	holds(t, s, "a", noughts(1<<16), 0, 4096)
}

// P7.1: SetAttr, DropAttr and GetAttr

func TestAttrs(t *testing.T) {
	s := newStore(t, 4)
	does(t, s, "a", steps(create(), setAttr("k", "v"), setAttr("~", "1"), setAttr("!", "2"), setAttr("kk", ""), setAttr("K", "3")))
	if got := attrs(s, "a"); got != "!=2 K=3 k=v kk= ~=1" {
		t.Errorf("its attributes are %s", got)
	}
	does(t, s, "a", steps(getAttr("k"), setAttr("k", "w"), getAttr("k"), getAttr("kk")), "v", "w", "")
	does(t, s, "a", steps(dropAttr("!"), dropAttr("~"), dropAttr("none"), dropAttr(""), dropAttr("a b"), dropAttr(x(99))))
	if got := attrs(s, "a"); got != "K=3 k=w kk=" {
		t.Errorf("its attributes are %s", got)
	}
	for _, name := range []string{"!", "none", "", "a b", "kkk", x(99)} {
		refuses(t, s, api.ErrNone, "a", getAttr(name))
		refuses(t, s, api.ErrNone, "a", getAttr("k"), getAttr(name))
	}
	does(t, s, "a", steps(setAttr("k", x(1024)), getAttr("k")), x(1024))
	refuses(t, s, api.ErrRange, "a", setAttr("k", x(1025)))
	refuses(t, s, api.ErrRange, "a", setAttr("k", x(1<<17)))
	refuses(t, s, api.ErrRange, "a", setAttr("", x(1024)))
	refuses(t, s, api.ErrRange, "a", setAttr("k", "v"), setAttr(x(33), "v"))
	does(t, s, "b", steps(create(), setAttr("k", "b")))
	does(t, s, "a", steps(getAttr("k")), x(1024))
	if s.Free() != 4 || s.Size("a") != 0 {
		t.Error("attributes take blocks")
	}
	for i := range 40 {
		does(t, s, "b", steps(setAttr(x(i%32+1), x(i)), setAttr("k", x(i))))
	}
	if list := s.Attrs("b"); len(list) != 33 || list[0].Name != "k" || len(list[8].Value) != 39 {
		t.Errorf("%d attributes: %v", len(list), list)
	}
}

// P7.1: Read

func TestRead(t *testing.T) {
	s := newStore(t, 4)
	does(t, s, "a", steps(create(), read(0, 5)), "")
	does(t, s, "a", steps(write(0, "abcdef")))
	for _, r := range []struct {
		at, n int
		data  string
	}{
		{0, 0, ""}, {0, 1, "a"}, {2, 3, "cde"}, {0, 6, "abcdef"}, {0, 7, "abcdef"}, {5, 1, "f"}, {5, 9, "f"}, {6, 1, ""}, {7, 1, ""}, {3, 0, ""},
		{4, math.MaxInt, "ef"}, {math.MaxInt, 1, ""}, {math.MaxInt, math.MaxInt, ""}, {1<<32 + 1, 1, ""}, {1, 1<<32 + 1, "bcdef"},
	} {
		does(t, s, "a", steps(read(r.at, r.n)), r.data)
	}
	does(t, s, "a", steps(read(0, 2), write(1, "-"), read(0, 2), read(9, 9), drop(), create(), read(0, 9)), "ab", "a-", "", "")
	for _, step := range []api.Step{read(-1, 1), read(1, -1), read(-1, -1), read(math.MinInt, 0), read(0, math.MinInt), read(-1, math.MaxInt), read(math.MaxInt, -1)} {
		refuses(t, s, api.ErrRange, "a", step)
		refuses(t, s, api.ErrRange, "a", read(0, 1), step)
	}
}

// P7.1: a step uses what it is told to use, and nothing else

func TestOtherFields(t *testing.T) {
	s := newStore(t, 4)
	odd := func(step api.Step) api.Step {
		switch step.Kind {
		case api.NeedThere, api.NeedAbsent, api.NeedAttr, api.NeedNoAttr, api.Make, api.Drop, api.SetAttr, api.DropAttr, api.GetAttr:
			step.At = -7
		}
		if step.Kind != api.Zero && step.Kind != api.Read {
			step.Len = -9
		}
		switch step.Kind {
		case api.NeedAttr, api.Write, api.SetAttr:
		default:
			step.Data = []byte(x(1 << 17))
		}
		switch step.Kind {
		case api.NeedAttr, api.NeedNoAttr, api.SetAttr, api.DropAttr, api.GetAttr:
		default:
			step.Name = "no name"
		}
		return step
	}
	list := steps(needAbsent(), drop(), create(), needThere(), needAllowed(3), needNoAttr("k"), setAttr("k", "v"), needAttr("k", "v"),
		write(0, "abcdef"), zero(1, 2), cut(5), read(0, 9), getAttr("k"), dropAttr("k"))
	for i := range list {
		list[i] = odd(list[i])
	}
	does(t, s, "a", list, "a\x00\x00de", "v")
	holds(t, s, "a", "a\x00\x00de", 0, 1)
}

// P7.1: the first error is the answer's

func TestFirstError(t *testing.T) {
	s := newStore(t, 2)
	must(t, s.Block(5))
	does(t, s, "a", steps(create(), write(0, "some"), setAttr("k", "v")))
	wrong := []struct {
		step api.Step
		err  error
	}{
		{needAbsent(), api.ErrExists}, {needAttr("k", "w"), api.ErrGuard}, {needNoAttr("k"), api.ErrGuard}, {needAllowed(8), api.ErrRange},
		{needAllowed(5), api.ErrBlocked}, {write(-1, "x"), api.ErrRange}, {getAttr("none"), api.ErrNone}, {api.Step{Kind: 15}, api.ErrForm},
	}
	for _, a := range wrong {
		for _, b := range wrong {
			refuses(t, s, a.err, "a", a.step, b.step)
			refuses(t, s, a.err, "a", write(0, x(99)), read(0, 9), a.step, drop(), b.step)
			refuses(t, s, a.err, "a", write(99, "x"), dropAttr("none"), a.step)
		}
	}
	refuses(t, s, api.ErrFull, "a", write(99, "x"))
}

// P7.1: behind the steps the blocks are what is needed

func TestBlocks(t *testing.T) {
	for n, blocks := range map[int]int{0: 0, 1: 1, 15: 1, 16: 1, 17: 2, 32: 2, 33: 3, 1 << 16: 4096, 1<<16 - 15: 4096, 1<<16 - 16: 4095} {
		s := newStore(t, 5000)
		does(t, s, "a", steps(create(), cut(n)))
		if s.Free() != 5000-blocks || n > 0 && !slices.Equal(s.Extents("a"), row(0, blocks)) || n == 0 && s.Extents("a") != nil {
			t.Errorf("%d bytes: %d free, %v", n, s.Free(), s.Extents("a"))
		}
	}
	s := newStore(t, 9)
	does(t, s, "a", steps(create(), write(0, x(17))))
	holds(t, s, "a", x(17), 0, 2)
	if s.Free() != 7 {
		t.Errorf("%d are free", s.Free())
	}
}

func TestMoreAndFewerBlocks(t *testing.T) {
	s := newStore(t, 12)
	does(t, s, "a", steps(create(), write(0, x(16*3))))
	does(t, s, "b", steps(create(), write(0, x(16*2))))
	does(t, s, "a", steps(cut(16*5)))
	holds(t, s, "a", x(16*3)+noughts(16*2), 0, 3, 5, 2)
	does(t, s, "b", steps(write(32, "y")))
	holds(t, s, "b", x(32)+"y", 3, 2, 7, 1)
	does(t, s, "b", steps(cut(16*7))) // what is behind isn't joined
	if got := s.Extents("b"); !slices.Equal(got, row(3, 2, 7, 1, 8, 4)) || s.Free() != 0 {
		t.Errorf("b: %v, %d free", got, s.Free())
	}
	for n, extents := range map[int][]api.Extent{
		7: row(3, 2, 7, 1, 8, 4), 6: row(3, 2, 7, 1, 8, 3), 4: row(3, 2, 7, 1, 8, 1), 3: row(3, 2, 7, 1), 2: row(3, 2), 1: row(3, 1), 0: nil,
	} {
		c := s.Copy()
		does(t, c, "b", steps(cut(16*n)))
		if got := c.Extents("b"); !slices.Equal(got, extents) || c.Free() != 7-n {
			t.Errorf("cut to %d blocks: %v, %d free", n, got, c.Free())
		}
		does(t, c, "c", steps(create(), cut((7-n)*16))) // what was given back may be taken
		if c.Free() != 0 {
			t.Errorf("all is taken, and %d are free", c.Free())
		}
		refuses(t, c, api.ErrFull, "c", cut((7-n)*16+1))
	}
}

func TestOneBlockMore(t *testing.T) {
	s := newStore(t, 9)
	for i := range 9 {
		does(t, s, "a", steps(create(), cut(16*i+1)))
	}
	if got := s.Extents("a"); !slices.Equal(got, row(0, 1, 1, 1, 2, 1, 3, 1, 4, 1, 5, 1, 6, 1, 7, 1, 8, 1)) {
		t.Errorf("grown block by block: %v", got)
	}
	does(t, s, "a", steps(cut(16*3+5)))
	if got := s.Extents("a"); !slices.Equal(got, row(0, 1, 1, 1, 2, 1, 3, 1)) {
		t.Errorf("cut: %v", got)
	}
}

// What an object has in the midst of its steps needs no blocks.
func TestBlocksBehindTheSteps(t *testing.T) {
	s := newStore(t, 3)
	does(t, s, "a", steps(create(), cut(1<<16), cut(40)))
	does(t, s, "a", steps(write(0, "abc"), cut(1<<16), write(900, "x"), cut(3)))
	holds(t, s, "a", "abc", 0, 1)
	does(t, s, "b", steps(create(), write(0, x(32))))
	does(t, s, "b", steps(cut(0), write(0, x(20))))
	holds(t, s, "b", x(20), 1, 2)
	does(t, s, "a", steps(drop(), create(), write(0, "anew")))
	holds(t, s, "a", "anew", 0, 1)
	refuses(t, s, api.ErrFull, "a", drop(), create(), write(16, "x"))
	refuses(t, s, api.ErrFull, "c", create(), write(0, "x"))
	does(t, s, "c", steps(create(), cut(1<<16), drop()))
	does(t, s, "c", steps(create(), setAttr("k", "v")))
	does(t, s, "a", steps(drop()))
	does(t, s, "c", steps(write(0, x(16))))
	holds(t, s, "c", x(16), 0, 1)
}

func TestDroppedAndMade(t *testing.T) {
	s := newStore(t, 12)
	does(t, s, "x", steps(create(), cut(16*4)))
	does(t, s, "a", steps(create(), cut(16*3)))
	does(t, s, "x", steps(drop()))
	does(t, s, "a", steps(drop(), create(), write(16*3, "x"))) // 0 to 3 and 7 to 11 are free
	holds(t, s, "a", noughts(48)+"x", 4, 3, 0, 1)
	does(t, s, "a", steps(drop(), create(), write(20, "x")))
	holds(t, s, "a", noughts(20)+"x", 4, 2)
}

func TestFull(t *testing.T) {
	s := newStore(t, 0)
	does(t, s, "a", steps(create(), setAttr("k", x(1024))))
	refuses(t, s, api.ErrFull, "a", write(0, "x"))
	refuses(t, s, api.ErrFull, "a", cut(1))
	refuses(t, s, api.ErrFull, "a", read(0, 1), getAttr("k"), cut(1<<16))
	s = newStore(t, 1<<16)
	for i := range 16 {
		does(t, s, x(i+1), steps(create(), cut(1<<16)))
	}
	if refuses(t, s, api.ErrFull, "a", create(), cut(1)); s.Free() != 0 {
		t.Errorf("%d are free", s.Free())
	}
	does(t, s, "xx", steps(cut(1<<16-16)))
	refuses(t, s, api.ErrFull, "a", create(), cut(17))
	does(t, s, "a", steps(create(), cut(16)))
}

// P7.1: Names

func TestNamesOfPrefix(t *testing.T) {
	s := newStore(t, 4)
	for _, name := range []string{"b", "ab", "a", "~", "!", "abc", "B", "a!", "a~", "aB"} {
		does(t, s, name, steps(create()))
	}
	for prefix, names := range map[string][]string{
		"":  {"!", "B", "a", "a!", "aB", "ab", "abc", "a~", "b", "~"},
		"a": {"a", "a!", "aB", "ab", "abc", "a~"}, "ab": {"ab", "abc"}, "abc": {"abc"}, "abcd": nil, "b": {"b"}, "B": {"B"},
		"c": nil, " ": nil, "\x00": nil, "\xff": nil, x(40): nil, "!": {"!"}, "~": {"~"}, "a ": nil,
	} {
		if got := s.Names(prefix); !slices.Equal(got, names) {
			t.Errorf("Names(%q): %q, not %q", prefix, got, names)
		}
	}
}

// P7.1: Copy

func TestCopy(t *testing.T) {
	s := full(t)
	c := s.Copy()
	before := s.Put()
	if !bytes.Equal(c.Put(), before) || c.Free() != 15 {
		t.Errorf("a copy: %q, not %q, %d free", c.Put(), before, c.Free())
	}
	does(t, s, "one", steps(write(1, "!"), zero(0, 1), setAttr("k", "changed"), dropAttr("e"), cut(40)))
	does(t, s, "two", steps(drop()))
	does(t, s, "four", steps(create(), write(0, "4")))
	must(t, s.Block(1))
	if !bytes.Equal(c.Put(), before) || c.Free() != 15 || c.Blocked(1) {
		t.Errorf("a copy of what was changed since: %q, not %q, %d free", c.Put(), before, c.Free())
	}
	after, free := s.Put(), s.Free()
	does(t, c, "one", steps(write(0, "?"), setAttr("k", "otherwise"), setAttr("new", "1"), cut(1)))
	does(t, c, "three", steps(drop()))
	does(t, c, "five", steps(create(), write(0, x(60))))
	must(t, c.Block(2))
	if !bytes.Equal(s.Put(), after) || s.Free() != free || s.Blocked(2) {
		t.Errorf("what was copied, and its copy changed: %q, not %q, %d free", s.Put(), after, s.Free())
	}
}

// P7.1: a nil store

func TestNilStore(t *testing.T) {
	var s *store.Store
	for _, name := range []string{"", "a", "a b"} {
		for _, list := range [][]api.Step{nil, steps(create()), steps(needAbsent()), slices.Repeat(steps(create()), 17)} {
			told, err := s.Do(name, list...)
			if want(t, "Do of a nil store", err, api.ErrForm); told != nil {
				t.Errorf("a nil store tells %q", told)
			}
		}
		if s.Names(name) != nil || s.Size(name) != -1 || s.Attrs(name) != nil || s.Extents(name) != nil {
			t.Errorf("a nil store has %q", name)
		}
	}
	for _, c := range []int{-1, 0, 7, 8, math.MaxInt, math.MinInt} {
		if want(t, "Block of a nil store", s.Block(c), api.ErrForm); s.Blocked(c) {
			t.Errorf("a nil store has blocked client %d", c)
		}
	}
	if s.Free() != 0 || s.Put() != nil || s.Copy() != nil {
		t.Errorf("a nil store: %d free, text %q, copy %v", s.Free(), s.Put(), s.Copy())
	}
}

// P7.2: wherever in an operation the error stands, nothing is changed

func TestNothingIsDone(t *testing.T) {
	ahead := steps(create(), write(3, x(50)), zero(4, 9), cut(70), setAttr("k", "new"), setAttr("other", "1"), dropAttr("e"), read(0, 9), getAttr("k"),
		drop(), create(), write(0, "y"), setAttr("k", "newer"), cut(30), drop())
	for _, name := range []string{"one", "two", "three", "none"} {
		s := full(t)
		for n := range len(ahead) + 1 {
			refuses(t, s, api.ErrForm, name, append(slices.Clip(ahead[:n]), api.Step{Kind: 77})...)
			refuses(t, s, api.ErrRange, name, append(slices.Clip(ahead[:n]), needAllowed(8))...)
			refuses(t, s, api.ErrBlocked, name, append(slices.Clip(ahead[:n]), needAllowed(6))...)
		}
		for n := range len(ahead) - 1 {
			refuses(t, s, api.ErrFull, name, append(slices.Clip(ahead[:n]), create(), cut(1<<16))...)
		}
	}
}

// full is a store of 20 blocks with three objects, and clients that are blocked.
func full(t *testing.T) *store.Store {
	t.Helper()
	s := newStore(t, 20)
	does(t, s, "one", steps(create(), write(0, "the first one"), setAttr("k", "v"), setAttr("e", "")))
	does(t, s, "two", steps(create(), write(0, x(33)), setAttr("a", "1")))
	does(t, s, "three", steps(create()))
	does(t, s, "one", steps(write(20, "and more")))
	must(t, s.Block(0))
	must(t, s.Block(6))
	return s
}

// P7.1, P7.3: the text

// num is a number's bytes.
func num(n int) string {
	w := &wire.Writer{}
	w.Num(n)
	return string(w.Out())
}

// text is a text's bytes, and how many they are.
func text(s string) string { return num(len(s)) + s }

func TestPut(t *testing.T) {
	one := text("one") + text("the first one"+noughts(7)+"and more") + num(2) + text("e") + text("") + text("k") + text("v") + num(2) + num(0) + num(1) + num(4) + num(1)
	three := text("three") + text("") + num(0) + num(0)
	two := text("two") + text(x(33)) + num(1) + text("a") + text("1") + num(1) + num(1) + num(3)
	asked := num(20) + "\x01\x00\x00\x00\x00\x00\x01\x00" + num(3) + one + three + two
	if got := string(full(t).Put()); got != asked {
		t.Errorf("its text is %q, not %q", got, asked)
	}
	if got := string(newStore(t, 7).Put()); got != num(7)+noughts(8)+num(0) {
		t.Errorf("the text of a store without objects is %q", got)
	}
}

// takes is a text that is taken, and put alike.
func takes(t *testing.T, b string) *store.Store {
	t.Helper()
	s, err := store.Take([]byte(b))
	if err != nil || s == nil {
		t.Fatalf("Take(%q): %v", b, err)
	}
	if string(s.Put()) != b {
		t.Errorf("%q is taken, and put as %q", b, s.Put())
	}
	return s
}

// noText is a text that isn't taken.
func noText(t *testing.T, what, b string) {
	t.Helper()
	s, err := store.Take([]byte(b))
	if want(t, what, err, api.ErrForm); s != nil {
		t.Errorf("%s: a store beside the error", what)
	}
}

func TestTake(t *testing.T) {
	s := full(t)
	c := takes(t, string(s.Put()))
	if c.Free() != s.Free() || !slices.Equal(c.Names(""), []string{"one", "three", "two"}) || attrs(c, "one") != "e= k=v" || c.Size("three") != 0 {
		t.Errorf("taken: %d free, %q, %s", c.Free(), c.Names(""), attrs(c, "one"))
	}
	for i := range 8 {
		if c.Blocked(i) != (i == 0 || i == 6) {
			t.Errorf("taken: Blocked(%d) is %v", i, c.Blocked(i))
		}
	}
	holds(t, c, "one", "the first one"+noughts(7)+"and more", 0, 1, 4, 1)
	for _, z := range []*store.Store{s, c} {
		does(t, z, "three", steps(setAttr("k", "v"), write(0, x(99)), needAllowed(1)))
		does(t, z, "two", steps(cut(17), dropAttr("a"), setAttr("b", "2")))
		refuses(t, z, api.ErrBlocked, "one", needAllowed(6))
		refuses(t, z, api.ErrFull, "one", cut(1<<16))
	}
	if !bytes.Equal(c.Put(), s.Put()) {
		t.Errorf("the same is done: %q, not %q", c.Put(), s.Put())
	}
	takes(t, string(newStore(t, 0).Put()))
	takes(t, string(newStore(t, 1<<16).Put()))
}

// begin is a text's beginning, up to how many objects there are.
func begin(blocks, objects int) string { return num(blocks) + noughts(8) + num(objects) }

func TestTakeObjects(t *testing.T) {
	one := func(n int, rest string) string { return text("a") + text(x(n)) + num(0) + rest }
	for _, b := range []string{
		begin(4, 1) + one(0, num(0)),
		begin(4, 1) + one(16, num(1)+num(3)+num(1)),
		begin(4, 1) + one(17, num(2)+num(3)+num(1)+num(0)+num(1)),
		begin(4, 1) + one(64, num(3)+num(2)+num(1)+num(3)+num(1)+num(0)+num(2)),
		begin(4, 1) + one(64, num(4)+num(0)+num(1)+num(1)+num(1)+num(2)+num(1)+num(3)+num(1)),
		begin(1<<16, 1) + one(1<<16, num(1)+num(61440)+num(4096)),
		begin(0, 1) + text(x(32)) + text("") + num(2) + text("!") + text(x(1024)) + text(x(32)) + text("") + num(0),
		begin(3, 2) + text("a") + text("12") + num(0) + num(1) + num(2) + num(1) + text("b") + text("34") + num(0) + num(1) + num(0) + num(1),
		num(3) + "\x01\x01\x01\x01\x01\x01\x01\x01" + num(0),
	} {
		takes(t, b)
	}
	for what, b := range map[string]string{
		"no extents":            begin(4, 1) + one(1, num(0)),
		"a block too few":       begin(4, 1) + one(17, num(1)+num(0)+num(1)),
		"a block too many":      begin(4, 1) + one(16, num(1)+num(0)+num(2)),
		"a block for no bytes":  begin(4, 1) + one(0, num(1)+num(0)+num(1)),
		"an empty extent":       begin(4, 1) + one(16, num(2)+num(0)+num(1)+num(1)+num(0)),
		"just an empty extent":  begin(4, 1) + one(0, num(1)+num(1)+num(0)),
		"an extent below 0":     begin(4, 1) + one(16, num(1)+num(-1)+num(1)),
		"a length below 0":      begin(4, 1) + one(16, num(2)+num(0)+num(2)+num(3)+num(-1)),
		"an extent behind":      begin(4, 1) + one(16, num(1)+num(4)+num(1)),
		"an extent over":        begin(4, 1) + one(32, num(1)+num(3)+num(2)),
		"an extent far off":     begin(4, 1) + one(16, num(1)+num(math.MaxInt)+num(1)),
		"an extent that wraps":  begin(4, 1) + one(16, num(2)+num(1)+num(math.MaxInt)+num(2)+num(math.MinInt+2)),
		"a block twice":         begin(4, 1) + one(32, num(2)+num(0)+num(1)+num(0)+num(1)),
		"a block of two":        begin(4, 2) + text("a") + text("1") + num(0) + num(1) + num(2) + num(1) + text("b") + text("2") + num(0) + num(1) + num(2) + num(1),
		"too many bytes":        begin(5000, 1) + one(1<<16+1, num(1)+num(0)+num(4097)),
		"no name":               begin(4, 1) + text("") + text("") + num(0) + num(0),
		"a blank in a name":     begin(4, 1) + text("a b") + text("") + num(0) + num(0),
		"a long name":           begin(4, 1) + text(x(33)) + text("") + num(0) + num(0),
		"a name of other signs": begin(4, 1) + text("\x7f") + text("") + num(0) + num(0),
		"names fall":            begin(4, 2) + text("b") + text("") + num(0) + num(0) + text("a") + text("") + num(0) + num(0),
		"a name twice":          begin(4, 2) + text("a") + text("") + num(0) + num(0) + text("a") + text("") + num(0) + num(0),
		"no attribute's name":   begin(4, 1) + text("a") + text("") + num(1) + text("") + text("v") + num(0),
		"a blank in one":        begin(4, 1) + text("a") + text("") + num(1) + text(" ") + text("v") + num(0),
		"a long one":            begin(4, 1) + text("a") + text("") + num(1) + text(x(33)) + text("v") + num(0),
		"a long value":          begin(4, 1) + text("a") + text("") + num(1) + text("k") + text(x(1025)) + num(0),
		"attributes fall":       begin(4, 1) + text("a") + text("") + num(2) + text("l") + text("") + text("k") + text("") + num(0),
		"an attribute twice":    begin(4, 1) + text("a") + text("") + num(2) + text("k") + text("") + text("k") + text("") + num(0),
		"attributes below 0":    begin(4, 1) + text("a") + text("") + num(-1) + num(0),
		"extents below 0":       begin(4, 1) + one(0, num(-1)),
		"objects below 0":       begin(4, -1),
		"objects far below 0":   begin(4, math.MinInt),
		"an object too few":     begin(4, 1),
		"an object too many":    begin(4, 0) + one(0, num(0)),
		"too many objects":      begin(4, math.MaxInt) + one(0, num(0)),
		"too many attributes":   begin(4, 1) + text("a") + text("") + num(math.MaxInt) + text("k") + text("v") + num(0),
		"too many extents":      begin(4, 1) + one(16, num(math.MaxInt)+num(0)+num(1)),
		"bytes that are left":   begin(4, 1) + one(0, num(0)) + "\x00",
		"a flag that is none":   num(4) + "\x00\x02\x00\x00\x00\x00\x00\x00" + num(0),
		"too few flags":         num(4) + noughts(7) + num(0),
		"blocks below 0":        begin(-1, 0),
		"blocks far below 0":    begin(math.MinInt, 0),
		"too many blocks":       begin(1<<16+1, 0),
		"far too many blocks":   begin(math.MaxInt, 0),
		"no bytes":              "",
		"a byte":                "\x00",
		"noughts":               noughts(23),
	} {
		noText(t, what, b)
	}
	if s, err := store.Take(nil); s != nil || !errors.Is(err, api.ErrForm) {
		t.Errorf("Take(nil): %v, %v", s, err)
	}
}

// A text that isn't whole isn't one, and any other text is, if it is put alike.
func TestTakeSpoilt(t *testing.T) {
	b := string(full(t).Put())
	for n := range len(b) {
		noText(t, "a text that is cut", b[:n])
	}
	noText(t, "a text and a byte", b+"\x00")
	noText(t, "a text and itself", b+b)
	taken := 0
	for i := range len(b) {
		for c := range 256 {
			spoilt := b[:i] + string([]byte{byte(c)}) + b[i+1:]
			s, err := store.Take([]byte(spoilt))
			if (s == nil) != (err != nil) || err != nil && !errors.Is(err, api.ErrForm) {
				t.Fatalf("Take(%q): %v, %v", spoilt, s, err)
			}
			if err == nil {
				taken++
				if string(s.Put()) != spoilt {
					t.Errorf("%q is taken, and put as %q", spoilt, s.Put())
				}
			}
		}
	}
	if taken < 10000 {
		t.Errorf("%d are taken: too few", taken)
	}
}

// P7.4: what is handed in isn't changed, and not kept

func TestHandedIn(t *testing.T) {
	data, value := []byte("data+++"), []byte("value+++")
	list := steps(create(), api.Step{Kind: api.Write, At: 1, Data: data[:4]}, api.Step{Kind: api.SetAttr, Name: "k", Data: value[:5]},
		api.Step{Kind: api.NeedAttr, Name: "k", Data: value[:5]}, read(0, 9), getAttr("k"), drop(), drop())
	s := newStore(t, 4)
	does(t, s, "a", list[:6], "\x00data", "value")
	does(t, s, "a", steps(write(2, "---"), zero(0, 9), cut(30), setAttr("k", "other")))
	does(t, s, "a", list[:3])
	does(t, s, "a", steps(write(5, "more"), write(1, "D"), cut(16)))
	if string(data) != "data+++" || string(value) != "value+++" {
		t.Errorf("what was handed in is changed: %q, %q", data, value)
	}
	if asked := steps(create(), write(1, "data"), setAttr("k", "value"), needAttr("k", "value"), read(0, 9), getAttr("k"), drop(), drop()); !slices.EqualFunc(list, asked, sameStep) {
		t.Errorf("the steps are changed: %v", list)
	}
	spoil(data)
	spoil(value)
	clear(list[:cap(list)])
	holds(t, s, "a", "\x00Datamore"+noughts(7), 0, 1)
	if attrs(s, "a") != "k=value" {
		t.Errorf("its attributes are kept as they were handed in: %s", attrs(s, "a"))
	}
}

func sameStep(a, b api.Step) bool {
	return a.Kind == b.Kind && a.At == b.At && a.Len == b.Len && a.Name == b.Name && bytes.Equal(a.Data, b.Data)
}

// spoil writes over bytes, and what room there is behind them.
func spoil(b []byte) {
	b = b[:cap(b)]
	for i := range b {
		b[i] = '#'
	}
}

func TestTakenIsHandedIn(t *testing.T) {
	b := append(full(t).Put(), "+++"...)
	whole := bytes.Clone(b)
	s, err := store.Take(b[:len(b)-3])
	must(t, err)
	does(t, s, "one", steps(read(0, 3)), "the")
	if !bytes.Equal(b, whole) {
		t.Error("a text that was taken is changed")
	}
	spoil(b)
	if !bytes.Equal(s.Put(), whole[:len(whole)-3]) {
		t.Error("a text that was taken is kept")
	}
	does(t, s, "one", steps(zero(0, 99), cut(50), setAttr("k", "")))
	if !bytes.Equal(b, bytes.Repeat([]byte("#"), len(b))) {
		t.Error("a text that was taken is changed later")
	}
}

// P7.4: answers are new memory

func TestToldIsNew(t *testing.T) {
	s := full(t)
	before := s.Put()
	told, err := s.Do("one", read(0, 99), read(0, 99), getAttr("k"), getAttr("k"), read(4, 5), getAttr("e"), read(99, 1))
	must(t, err)
	asked := texts(told)
	for i := range told {
		spoil(told[i])
		told[i] = nil
		if rest := texts(told[i+1:]); !slices.Equal(rest, asked[i+1:]) {
			t.Errorf("what is told shares memory: %q, not %q", rest, asked[i+1:])
		}
	}
	if !bytes.Equal(s.Put(), before) {
		t.Errorf("what is told is spoilt, and the store is: %q", s.Put())
	}
	told, err = s.Do("one", read(0, 9), getAttr("k"), write(0, "THE"), zero(4, 5), setAttr("k", "w"))
	must(t, err)
	if !slices.Equal(texts(told), []string{"the first", "v"}) {
		t.Errorf("what is told is changed by the steps behind it: %q", told)
	}
	does(t, s, "one", steps(zero(0, 99), setAttr("k", "")))
	if !slices.Equal(texts(told), []string{"the first", "v"}) {
		t.Errorf("what is told is changed later: %q", told)
	}
}

func TestAnswersAreNew(t *testing.T) {
	s := full(t)
	before := s.Put()
	list, attrs, extents, names := s.Attrs("one"), s.Attrs("one"), s.Extents("one"), s.Names("")
	for i := range list {
		spoil(list[i].Value)
		list[i].Name = "#"
	}
	if attrs[1].Name != "k" || string(attrs[1].Value) != "v" {
		t.Errorf("two answers share memory: %v", attrs)
	}
	for i := range extents[:cap(extents)] {
		extents[:cap(extents)][i] = api.Extent{At: -7, Len: 1 << 40}
	}
	for i := range names[:cap(names)] {
		names[:cap(names)][i] = "#"
	}
	spoil(s.Put())
	c := s.Copy()
	spoil(c.Put())
	for _, z := range []*store.Store{s, c} {
		if !bytes.Equal(z.Put(), before) {
			t.Errorf("answers are spoilt, and the store is: %q", z.Put())
		}
	}
	kept := s.Put()
	does(t, s, "one", steps(zero(0, 99), cut(1)))
	if !bytes.Equal(kept, before) {
		t.Error("a text is changed by what is done later")
	}
}
