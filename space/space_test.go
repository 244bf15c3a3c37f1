package space_test

import (
	"errors"
	"math"
	"slices"
	"strings"
	"testing"

	"lamina/api"
	"lamina/space"
)

// row is extents, each of two numbers.
func row(numbers ...int) []api.Extent {
	var list []api.Extent
	for l := numbers; len(l) > 0; l = l[2:] {
		list = append(list, api.Extent{At: l[0], Len: l[1]})
	}
	return list
}

// newSpace is a space, or the end of the test.
func newSpace(t *testing.T, blocks int) *space.Space {
	t.Helper()
	s, err := space.New(blocks)
	if err != nil || s == nil {
		t.Fatalf("New(%d): %v, %v", blocks, s, err)
	}
	return s
}

// drawn is a space as it is drawn: a point is a block that is free, a # one that isn't.
func drawn(t *testing.T, picture string) *space.Space {
	t.Helper()
	s := newSpace(t, len(picture))
	for i, c := range picture {
		if c == '#' {
			must(t, s.Claim(api.Extent{At: i, Len: 1}))
		}
	}
	return s
}

// picture draws a space, and tells of it where its calls don't tell the same of it.
func picture(t *testing.T, s *space.Space) string {
	t.Helper()
	b := []byte(strings.Repeat("#", s.Len()))
	last := -1
	for e := range s.Holes() {
		if e.Len < 1 || e.At <= last || e.At < 0 || e.At+e.Len > len(b) {
			t.Fatalf("%v is no hole behind block %d of %d", e, last, len(b))
		}
		for i := range e.Len {
			b[e.At+i] = '.'
		}
		last = e.At + e.Len // this block isn't free: no hole begins here
	}
	if free := strings.Count(string(b), "."); s.Free() != free {
		t.Errorf("%s: Free is %d", b, s.Free())
	}
	return string(b)
}

// looks tells of a space that isn't as it is drawn.
func looks(t *testing.T, what string, s *space.Space, asked string) {
	t.Helper()
	if got := picture(t, s); got != asked {
		t.Errorf("%s: %s, not %s", what, got, asked)
	}
}

// must ends the test if there was an error.
func must(t *testing.T, err error) {
	t.Helper()
	if err != nil {
		t.Fatal(err)
	}
}

// want tells of an error that isn't the one that is asked for.
func want(t *testing.T, what string, got, asked error) {
	t.Helper()
	if got == nil && asked == nil {
		return
	}
	if got == nil || asked == nil || !errors.Is(got, asked) {
		t.Errorf("%s answers %v, not %v", what, got, asked)
	}
}

// takes takes blocks of a space, and tells of extents that aren't those that are asked for.
func takes(t *testing.T, s *space.Space, n int, asked ...int) {
	t.Helper()
	list, err := s.Take(n)
	if err != nil || !slices.Equal(list, row(asked...)) {
		t.Errorf("Take(%d) answers %v, %v, not %v", n, list, err, row(asked...))
	}
}

// P6.1: New, and what a space is at first

func TestNewCounts(t *testing.T) {
	for _, n := range []int{-1, -2, 1<<16 + 1, 1 << 17, 1<<32 + 1, -1<<32 + 1, math.MinInt, math.MaxInt} {
		s, err := space.New(n)
		want(t, "New", err, api.ErrRange)
		if s != nil {
			t.Errorf("New(%d) has a space beside its error", n)
		}
	}
	for _, n := range []int{0, 1, 2, 100, 1<<16 - 1, 1 << 16} {
		s := newSpace(t, n)
		if s.Len() != n || s.Free() != n {
			t.Errorf("a new space of %d: %d blocks, %d are free", n, s.Len(), s.Free())
		}
		var asked []api.Extent
		if n > 0 {
			asked = row(0, n)
		}
		if holes := slices.Collect(s.Holes()); !slices.Equal(holes, asked) {
			t.Errorf("a new space of %d has the holes %v", n, holes)
		}
	}
}

// P6.1: Take, the shortest hole that is long enough

func TestTakeShortest(t *testing.T) {
	for _, x := range []struct {
		before string
		n      int
		list   []int
		behind string
	}{
		{"...#.....#..", 2, []int{10, 2}, "...#.....###"},
		{"...#.....#..", 3, []int{0, 3}, "####.....#.."},
		{"...#.....#..", 1, []int{10, 1}, "...#.....##."},
		{"...#.....#..", 4, []int{4, 4}, "...#####.#.."},
		{"...#.....#..", 5, []int{4, 5}, "...#######.."},
		{"..#..#..", 2, []int{0, 2}, "###..#.."},
		{"..#..#..", 1, []int{0, 1}, "#.#..#.."},
		{".....#...#....#...", 3, []int{6, 3}, ".....#####....#..."},
		{".....#...#....#...", 2, []int{6, 2}, ".....###.#....#..."},
		{"#...", 3, []int{1, 3}, "####"},
		{"...#", 1, []int{0, 1}, "#..#"},
		{".", 1, []int{0, 1}, "#"},
	} {
		s := drawn(t, x.before)
		takes(t, s, x.n, x.list...)
		looks(t, x.before, s, x.behind)
	}
}

// P6.1: Take, the longest holes, when none is long enough

func TestTakeLongest(t *testing.T) {
	for _, x := range []struct {
		before string
		n      int
		list   []int
		behind string
	}{
		{"...#.....#..", 9, []int{4, 5, 0, 3, 10, 1}, "###########."},
		{"...#.....#..", 6, []int{4, 5, 10, 1}, "...#######" + "#."},
		{"...#.....#..", 7, []int{4, 5, 10, 2}, "...#########"},
		{"...#.....#..", 8, []int{4, 5, 0, 3}, "##########.."},
		{"...#.....#..", 10, []int{4, 5, 0, 3, 10, 2}, "############"},
		{"..#..#..", 3, []int{0, 2, 3, 1}, "####.#.."},
		{"..#..#..", 4, []int{0, 2, 3, 2}, "######.."},
		{"..#..#..", 5, []int{0, 2, 3, 2, 6, 1}, "#######."},
		{".#...#..#...#.", 7, []int{2, 3, 9, 3, 0, 1}, "######..#####."},
		{".#...#..#...#.", 8, []int{2, 3, 9, 3, 6, 2}, ".###########" + "#."},
		{".#...#..#...#.", 5, []int{2, 3, 6, 2}, ".########...#."},
		{".#.#.#.", 4, []int{0, 1, 2, 1, 4, 1, 6, 1}, "#######"},
		{"....#....#.", 5, []int{0, 4, 10, 1}, "#####....##"},
		{".#....#....", 5, []int{2, 4, 0, 1}, "#######...."},
		{".#....#....", 6, []int{2, 4, 7, 2}, ".########.."},
	} {
		s := drawn(t, x.before)
		takes(t, s, x.n, x.list...)
		looks(t, x.before, s, x.behind)
	}
}

// P6.1: Take, no blocks, too many, and fewer than none

func TestTakeErrors(t *testing.T) {
	for _, before := range []string{"", ".", "#", "..#..", "##", "...#.....#.."} {
		s := drawn(t, before)
		for _, n := range []int{-1, -2, math.MinInt} {
			list, err := s.Take(n)
			want(t, "Take", err, api.ErrRange)
			if list != nil {
				t.Errorf("Take(%d) has %v beside its error", n, list)
			}
		}
		for _, n := range []int{s.Free() + 1, s.Free() + 2, 1<<16 + 1, math.MaxInt} {
			list, err := s.Take(n)
			want(t, "Take", err, api.ErrFull)
			if list != nil {
				t.Errorf("Take(%d) has %v beside its error", n, list)
			}
		}
		if list, err := s.Take(0); len(list) != 0 || err != nil {
			t.Errorf("Take(0) answers %v, %v", list, err)
		}
		looks(t, "what is refused, or of no blocks, has done something", s, before)
	}
}

func TestTakeAll(t *testing.T) {
	s := newSpace(t, 1<<16)
	takes(t, s, 1<<16, 0, 1<<16)
	if s.Free() != 0 || len(slices.Collect(s.Holes())) != 0 || s.Len() != 1<<16 {
		t.Errorf("of a space all of which is taken %d are free", s.Free())
	}
	takes(t, s, 0)
	_, err := s.Take(1)
	want(t, "Take of none that are left", err, api.ErrFull)
}

// P6.1: as many holes as there can be, all taken at once

func TestTakeManyHoles(t *testing.T) {
	s := newSpace(t, 1<<16)
	var odd, even []api.Extent
	for i := range 1 << 15 {
		even = append(even, api.Extent{At: 2 * i, Len: 1})
		odd = append(odd, api.Extent{At: 2*i + 1, Len: 1})
	}
	must(t, s.Claim(odd...))
	if holes := slices.Collect(s.Holes()); !slices.Equal(holes, even) {
		t.Fatalf("there are %d holes", len(holes))
	}
	if list, err := s.Take(1 << 15); err != nil || !slices.Equal(list, even) {
		t.Fatalf("%d extents are taken, %v", len(list), err)
	}
	must(t, s.Give(odd...))
	must(t, s.Give(even...))
	if s.Free() != 1<<16 {
		t.Errorf("all is given back, and %d are free", s.Free())
	}
}

// P6.1: Give and Claim

func TestClaimAndGive(t *testing.T) {
	s := newSpace(t, 12)
	must(t, s.Claim(row(9, 1, 3, 1)...))
	looks(t, "two are claimed", s, "...#.....#..")
	must(t, s.Claim(row(4, 5, 0, 3, 10, 2)...))
	looks(t, "all are claimed", s, "############")
	must(t, s.Give(row(0, 12)...))
	looks(t, "all are given back at once", s, "............")
	must(t, s.Claim(row(0, 12)...))
	must(t, s.Give(row(11, 1, 0, 1, 5, 2, 7, 1)...))
	looks(t, "extents are given back in any order", s, ".####...###.")
	must(t, s.Give(row(1, 1)...))
	must(t, s.Give(row(8, 3)...))
	looks(t, "what is beside a hole is given back", s, "..###.......")
}

func TestGiveAndClaimNothing(t *testing.T) {
	for _, before := range []string{"", "..#", "##"} {
		s := drawn(t, before)
		want(t, "Give", s.Give(), nil)
		want(t, "Claim", s.Claim(), nil)
		want(t, "Give", s.Give([]api.Extent{}...), nil)
		want(t, "Claim", s.Claim([]api.Extent{}...), nil)
		looks(t, "nothing is given back and claimed", s, before)
	}
}

// noExtents is extents that have no blocks, or one that there isn't, of so many blocks.
func noExtents(blocks int) []api.Extent {
	return row(
		0, 0, 1, 0, blocks, 0, blocks+1, 0, -1, 0, math.MaxInt, 0, math.MinInt, 0,
		0, -1, 2, -1, blocks, -1, 0, math.MinInt, math.MinInt, math.MinInt, math.MaxInt, math.MinInt, 3, math.MinInt,
		-1, 1, -1, 2, -1, blocks, -1, blocks+1, math.MinInt, 1, math.MinInt, math.MaxInt,
		blocks, 1, blocks+1, 1, blocks-1, 2, 0, blocks+1, 1, blocks, math.MaxInt, 1, math.MaxInt, 2,
		1, math.MaxInt, 0, math.MaxInt, math.MaxInt, math.MaxInt, math.MinInt+1, math.MaxInt, -math.MaxInt, math.MaxInt,
		1<<32, 1, 1<<32+1, 1, 1, 1<<32+1, -1<<32, 1, -5, math.MaxInt)
}

func TestNoExtents(t *testing.T) {
	for _, before := range []string{"", ".", "#", ".....", "#####", "..##.#"} {
		s := drawn(t, before)
		for _, e := range noExtents(len(before)) {
			want(t, "Give of what is no extent", s.Give(e), api.ErrRange)
			want(t, "Claim of what is no extent", s.Claim(e), api.ErrRange)
			looks(t, "what is refused has done something", s, before)
		}
	}
}

// P6.1: Give and Claim refuse all extents for one's sake, and nothing is done

func TestGiveErrors(t *testing.T) {
	for _, list := range [][]api.Extent{
		row(2, 1), row(1, 2), row(2, 3), row(0, 6), row(5, 2), row(4, 3), // one is free
		row(0, 2, 2, 1), row(2, 1, 0, 2), row(0, 1, 1, 1, 3, 3, 7, 2, 6, 1),
		row(0, 1, 0, 1), row(3, 3, 4, 1), row(4, 1, 3, 3), row(3, 2, 4, 2), row(4, 2, 3, 2), row(0, 2, 3, 3, 7, 2, 8, 1), // one is in two
		row(0, 2, 3, 0), row(0, 2, 9, 1), row(3, 3, 8, 2), row(0, 1, -1, 1), row(7, 2, 0, -1), row(3, 1, math.MaxInt, math.MaxInt),
	} {
		s := drawn(t, "##.###.##")
		want(t, "Give", s.Give(list...), api.ErrRange)
		looks(t, "a Give that is refused", s, "##.###.##")
		must(t, s.Give(row(3, 3, 7, 2, 0, 2)...))
		looks(t, "a Give behind one that is refused", s, ".........")
	}
}

func TestClaimErrors(t *testing.T) {
	for _, list := range [][]api.Extent{
		row(2, 1), row(1, 2), row(2, 3), row(0, 6), row(5, 2), row(4, 3), // one isn't free
		row(0, 2, 2, 1), row(2, 1, 0, 2), row(0, 1, 1, 1, 3, 3, 7, 2, 6, 1),
		row(0, 1, 0, 1), row(3, 3, 4, 1), row(4, 1, 3, 3), row(3, 2, 4, 2), row(4, 2, 3, 2), row(0, 2, 3, 3, 7, 2, 8, 1), // one is in two
		row(0, 2, 3, 0), row(0, 2, 9, 1), row(3, 3, 8, 2), row(0, 1, -1, 1), row(7, 2, 0, -1), row(3, 1, math.MaxInt, math.MaxInt),
	} {
		s := drawn(t, "..#...#..")
		want(t, "Claim", s.Claim(list...), api.ErrRange)
		looks(t, "a Claim that is refused", s, "..#...#..")
		must(t, s.Claim(row(3, 3, 7, 2, 0, 2)...))
		looks(t, "a Claim behind one that is refused", s, "#########")
	}
}

// P6.1: the edges of the greatest space

func TestGreatestSpace(t *testing.T) {
	s := newSpace(t, 1<<16)
	must(t, s.Claim(row(1<<16-1, 1, 0, 1)...))
	want(t, "Claim behind the last block", s.Claim(api.Extent{At: 1 << 16, Len: 1}), api.ErrRange)
	want(t, "Claim of the first block again", s.Claim(api.Extent{Len: 1}), api.ErrRange)
	if holes := slices.Collect(s.Holes()); !slices.Equal(holes, row(1, 1<<16-2)) {
		t.Errorf("but for the first and the last block: %v", holes)
	}
	must(t, s.Claim(row(1, 1<<16-2)...))
	must(t, s.Give(row(0, 1<<16)...))
	if s.Free() != 1<<16 {
		t.Errorf("all is given back, and %d are free", s.Free())
	}
}

// P6.1: Holes

func TestHoles(t *testing.T) {
	for _, x := range []struct {
		picture string
		holes   []int
	}{
		{"", nil}, {"#", nil}, {"####", nil},
		{".", []int{0, 1}},
		{"..", []int{0, 2}},
		{".#", []int{0, 1}},
		{"#.", []int{1, 1}},
		{".#.", []int{0, 1, 2, 1}},
		{"#.#", []int{1, 1}},
		{"##..###.#", []int{2, 2, 7, 1}},
		{"...#.....#..", []int{0, 3, 4, 5, 10, 2}},
	} {
		s := drawn(t, x.picture)
		if holes := slices.Collect(s.Holes()); !slices.Equal(holes, row(x.holes...)) {
			t.Errorf("%s has the holes %v", x.picture, holes)
		}
	}
}

func TestHolesAreLeft(t *testing.T) {
	s := drawn(t, ".#.#.#.")
	holes := s.Holes()
	for left := range 5 {
		var seen []api.Extent
		for e := range holes {
			seen = append(seen, e)
			if len(seen) == left+1 {
				break
			}
		}
		if asked := row(0, 1, 2, 1, 4, 1, 6, 1)[:min(left+1, 4)]; !slices.Equal(seen, asked) {
			t.Errorf("left behind %d holes: %v", left+1, seen)
		}
	}
}

// Holes answers what there is when it is asked: what is done while they are gone through isn't seen.
func TestHolesWhileTaken(t *testing.T) {
	s := drawn(t, "...#.....#..")
	holes := s.Holes()
	var seen []api.Extent
	for e := range holes {
		must(t, s.Claim(e))
		seen = append(seen, e)
		_ = s.Give(row(3, 1)...)
	}
	if asked := row(0, 3, 4, 5, 10, 2); !slices.Equal(seen, asked) || !slices.Equal(slices.Collect(holes), asked) {
		t.Errorf("claimed one by one: %v, %v", seen, slices.Collect(holes))
	}
	looks(t, "all holes are claimed, and one more is given back", s, "###.#####"+"###")
}

// P6.1: Copy

func TestCopy(t *testing.T) {
	s := drawn(t, "...#.....#..")
	c := s.Copy()
	looks(t, "a copy", c, "...#.....#..")
	takes(t, s, 3, 0, 3)
	must(t, s.Give(row(9, 1)...))
	looks(t, "a copy of what was changed since", c, "...#.....#..")
	takes(t, c, 2, 10, 2)
	looks(t, "what was copied, and its copy changed", s, "####........")
	looks(t, "a copy that was changed", c, "...#.....###")
	if c.Len() != 12 {
		t.Errorf("a copy of 12 blocks has %d", c.Len())
	}
	looks(t, "a copy of no blocks", newSpace(t, 0).Copy(), "")
}

// P6.1: a nil space

func TestNilSpace(t *testing.T) {
	var s *space.Space
	if s.Len() != 0 || s.Free() != 0 || s.Copy() != nil {
		t.Errorf("a nil space: %d blocks, %d free, %v", s.Len(), s.Free(), s.Copy())
	}
	for e := range s.Holes() {
		t.Errorf("a nil space has the hole %v", e)
	}
	takes(t, s, 0)
	for n, asked := range map[int]error{-1: api.ErrRange, math.MinInt: api.ErrRange, 1: api.ErrFull, math.MaxInt: api.ErrFull} {
		list, err := s.Take(n)
		want(t, "Take of a nil space", err, asked)
		if list != nil {
			t.Errorf("Take(%d) of a nil space has %v beside its error", n, list)
		}
	}
	want(t, "Give of nothing to a nil space", s.Give(), nil)
	want(t, "Claim of nothing of a nil space", s.Claim(), nil)
	for _, e := range append(noExtents(0), row(0, 1, 0, 5)...) {
		want(t, "Give to a nil space", s.Give(e), api.ErrRange)
		want(t, "Claim of a nil space", s.Claim(e), api.ErrRange)
	}
}

// P6.2: what is given out by calls of any sizes is given out once

func TestNothingTwice(t *testing.T) {
	s := newSpace(t, 1000)
	given := map[int]bool{}
	for n := 1; n <= s.Free(); n = n%37 + 1 {
		list, err := s.Take(n)
		must(t, err)
		for _, e := range list {
			for i := range e.Len {
				if given[e.At+i] {
					t.Fatalf("block %d is given out twice", e.At+i)
				}
				given[e.At+i] = true
			}
		}
		if len(given)+s.Free() != 1000 {
			t.Fatalf("%d are given out, %d are free", len(given), s.Free())
		}
	}
}

func TestGivenBackIsFree(t *testing.T) {
	s := drawn(t, ".#...#..#...#.")
	for n := range s.Free() + 1 {
		list, err := s.Take(n)
		must(t, err)
		again := s.Copy()
		must(t, s.Give(list...))
		looks(t, "what was taken is given back", s, ".#...#..#...#.")
		slices.Reverse(list)
		must(t, again.Give(list...))
		looks(t, "what was taken is given back, the last one first", again, ".#...#..#...#.")
		if n > 0 {
			want(t, "what was given back is given back again", again.Give(list...), api.ErrRange)
		}
	}
}

// P6.3: what is handed in isn't changed, and not kept

func TestHandedIn(t *testing.T) {
	whole := row(3, 1, 9, 1, 70, 71, 80, 81)
	list := whole[:2]
	s := newSpace(t, 12)
	must(t, s.Claim(list...))
	list[0], list[1] = api.Extent{At: 0, Len: 12}, api.Extent{}
	looks(t, "what was claimed by a list that is spoilt", s, "...#.....#..")
	list[0], list[1] = row(9, 1)[0], row(3, 1)[0]
	must(t, s.Give(list...))
	want(t, "Give", s.Give(list...), api.ErrRange)
	must(t, s.Claim(list...))
	want(t, "Claim", s.Claim(list...), api.ErrRange)
	if !slices.Equal(whole, row(9, 1, 3, 1, 70, 71, 80, 81)) {
		t.Errorf("a list is changed: %v", whole)
	}
}

// P6.3: answers are new memory

func TestAnswersAreNew(t *testing.T) {
	s := drawn(t, "...#.....#..#.")
	other := s.Copy()
	first, err := s.Take(9)
	must(t, err)
	second, err := other.Take(9)
	must(t, err)
	spoil(first)
	if !slices.Equal(second, row(4, 5, 0, 3, 13, 1)) {
		t.Errorf("two spaces' answers share memory: %v", second)
	}
	looks(t, "an answer is spoilt", s, "##########..##")
	third, err := s.Take(2)
	must(t, err)
	spoil(first)
	spoil(second)
	if !slices.Equal(third, row(10, 2)) {
		t.Errorf("two answers share memory: %v", third)
	}
	must(t, s.Give(third...))
	spoil(third)
	looks(t, "what was given back is spoilt", s, "##########..##")
}

func TestHolesAreNew(t *testing.T) {
	s := drawn(t, ".#...#..")
	holes := s.Holes()
	spoil(slices.Collect(holes))
	for e := range holes {
		e.At, e.Len = 99, 99
	}
	if got := slices.Collect(holes); !slices.Equal(got, row(0, 1, 2, 3, 6, 2)) {
		t.Errorf("gone through again: %v", got)
	}
	looks(t, "the holes are spoilt", s, ".#...#..")
}

// spoil writes over a list, and what room there is behind it.
func spoil(list []api.Extent) {
	list = list[:cap(list)]
	for i := range list {
		list[i] = api.Extent{At: -7, Len: 1 << 40}
	}
}
