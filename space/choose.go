package space

import (
	"cmp"
	"container/heap"
	"slices"

	"lamina/api"
)

// choose is which extents of these holes are taken for n blocks; there are as many. It spoils the list of holes.
func choose(holes []api.Extent, n int) []api.Extent {
	if n == 0 {
		return nil
	}
	var list []api.Extent
	h := longest(holes)
	heap.Init(&h)
	for h[0].Len < n {
		e := heap.Pop(&h).(api.Extent)
		list = append(list, e)
		n -= e.Len
	}
	e := shortest(h, func(e api.Extent) bool { return e.Len >= n })
	return append(list, api.Extent{At: e.At, Len: n})
}

// shortest is the shortest one of the holes that fit, of several the first one.
func shortest(holes []api.Extent, fits func(api.Extent) bool) api.Extent {
	holes = slices.DeleteFunc(holes, func(e api.Extent) bool { return !fits(e) })
	return slices.MinFunc(holes, func(a, b api.Extent) int {
		return cmp.Or(cmp.Compare(a.Len, b.Len), cmp.Compare(a.At, b.At))
	})
}

// longest is a heap of holes, with the longest one on top, of several the first one.
type longest []api.Extent

func (h longest) Len() int { return len(h) }

func (h longest) Less(i, j int) bool {
	return cmp.Or(cmp.Compare(h[j].Len, h[i].Len), cmp.Compare(h[i].At, h[j].At)) < 0
}

func (h longest) Swap(i, j int) { h[i], h[j] = h[j], h[i] }

func (h *longest) Push(x any) { *h = append(*h, x.(api.Extent)) }

func (h *longest) Pop() any {
	last := len(*h) - 1
	e := (*h)[last]
	*h = (*h)[:last]
	return e
}
