package space_test

import (
	"bytes"
	"math"
	"slices"
	"testing"

	"lamina/api"
)

// dice is numbers that hang on its seed alone.
type dice uint64

func (r *dice) below(n int) int {
	*r = *r*6364136223846793005 + 1442695040888963407
	return int(uint64(*r)>>33) % n
}

// blocks is a space as the chapter tells it, block by block: a point is one that is free.
type blocks []byte

// holes are the rows of points that are as long as they can be.
func (b blocks) holes() []api.Extent {
	var list []api.Extent
	for i, c := range b {
		switch {
		case c != '.':
		case i > 0 && b[i-1] == '.':
			list[len(list)-1].Len++
		default:
			list = append(list, api.Extent{At: i, Len: 1})
		}
	}
	return list
}

func (b blocks) free() int { return bytes.Count(b, []byte(".")) }

// pick is the hole that is next for n blocks, as the chapter chooses it.
func (b blocks) pick(n int) api.Extent {
	var fit, long api.Extent
	for _, e := range b.holes() {
		if e.Len >= n && (fit.Len == 0 || e.Len < fit.Len) {
			fit = e
		}
		if e.Len > long.Len {
			long = e
		}
	}
	if fit.Len > 0 {
		return api.Extent{At: fit.At, Len: n}
	}
	return long
}

func (b blocks) take(n int) ([]api.Extent, error) {
	if n < 0 {
		return nil, api.ErrRange
	}
	if n > b.free() {
		return nil, api.ErrFull
	}
	var list []api.Extent
	for n > 0 {
		e := b.pick(n)
		list = append(list, e)
		n -= e.Len
		for i := range e.Len {
			b[e.At+i] = '#'
		}
	}
	return list, nil
}

// turn makes points of other blocks, or the other way round.
func (b blocks) turn(list []api.Extent, from, to byte) error {
	seen := map[int]bool{}
	for _, e := range list {
		if e.Len <= 0 || e.Len > len(b) {
			return api.ErrRange
		}
		for i := range e.Len {
			at := e.At + i
			if at < 0 || at >= len(b) || b[at] != from || seen[at] {
				return api.ErrRange
			}
			seen[at] = true
		}
	}
	for at := range seen {
		b[at] = to
	}
	return nil
}

// extents is extents that are meant for a call: of blocks of one kind, now and then with others among them.
func (r *dice) extents(b blocks, kind byte) []api.Extent {
	var list []api.Extent
	left := slices.Clone(b)
	for range r.below(5) {
		at := r.below(len(b) + 1)
		n := 0
		for limit := 1 + r.below(6); n < limit && at+n < len(b) && left[at+n] == kind; n++ {
			left[at+n] = 'x'
		}
		if n > 0 {
			list = append(list, api.Extent{At: at, Len: n})
		}
	}
	if r.below(4) == 0 {
		odd := []int{-1, 0, 1, 2, len(b) - 1, len(b), math.MaxInt, math.MinInt}
		e := api.Extent{At: odd[r.below(len(odd))], Len: odd[r.below(len(odd))]}
		list = slices.Insert(list, r.below(len(list)+1), e)
	}
	if r.below(6) == 0 && len(list) > 0 {
		list = append(list, list[r.below(len(list))])
	}
	return list
}

// P6.1, P6.2: all calls, in any order, are as the plain model's

func TestAnyCalls(t *testing.T) {
	done, refused := 0, 0
	for seed := range 300 {
		r := dice(seed)
		n := r.below(60)
		s, b := newSpace(t, n), blocks(bytes.Repeat([]byte("."), n))
		for range 150 {
			var got, asked error
			switch r.below(8) {
			case 0, 1:
				list := r.extents(b, '.')
				got, asked = s.Claim(list...), b.turn(list, '.', '#')
			case 2, 3, 4:
				list := r.extents(b, '#')
				got, asked = s.Give(list...), b.turn(list, '#', '.')
			case 5:
				s = s.Copy()
			default:
				blocks := r.below(b.free()+4) - 1
				if r.below(2) == 0 {
					blocks = r.below(4)
				}
				var list, other []api.Extent
				list, got = s.Take(blocks)
				other, asked = b.take(blocks)
				if !slices.Equal(list, other) {
					t.Fatalf("row %d: Take(%d) answers %v, not %v", seed, blocks, list, other)
				}
			}
			if want(t, "a call", got, asked); got == nil {
				done++
			} else {
				refused++
			}
			if s.Free() != b.free() || s.Len() != n || !slices.Equal(slices.Collect(s.Holes()), b.holes()) {
				t.Fatalf("row %d: %s, not %s", seed, picture(t, s), b)
			}
		}
	}
	if done < 20000 || refused < 5000 {
		t.Errorf("%d calls are done, %d refused: too few", done, refused)
	}
}

// P6.2: what is taken by many is given back by all of them, in any order

func TestManyTakers(t *testing.T) {
	for seed := range 50 {
		r := dice(seed)
		s := newSpace(t, 400)
		owner := make([]int, 400) // of each block: 0 is nobody
		var held [][]api.Extent
		for turn := range 200 {
			if r.below(5) < 3 {
				list, err := s.Take(r.below(min(40, s.Free()+1)))
				must(t, err)
				for _, e := range list {
					for i := range e.Len {
						if owner[e.At+i] != 0 {
							t.Fatalf("row %d: block %d is given out twice", seed, e.At+i)
						}
						owner[e.At+i] = turn + 1
					}
				}
				held = append(held, list)
			} else if len(held) > 0 {
				i := r.below(len(held))
				must(t, s.Give(held[i]...))
				for _, e := range held[i] {
					clear(owner[e.At : e.At+e.Len])
				}
				held = slices.Delete(held, i, i+1)
			}
		}
		for _, list := range held {
			must(t, s.Give(list...))
		}
		if holes := slices.Collect(s.Holes()); !slices.Equal(holes, row(0, 400)) {
			t.Fatalf("row %d: all is given back, and the holes are %v", seed, holes)
		}
	}
}
