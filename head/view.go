package head

import (
	"bytes"
	"slices"

	"lamina/api"
	"lamina/marks"
)

// view is what a head and a snapshot both say.
type view struct {
	size           int
	mapOn, mapGood bool
	row            marks.Marks
	Link
}

func (h Head) view() view { return view{h.Size, h.MapOn, h.MapGood, h.Map, h.Link} }

func (s Snap) view() view { return view{s.Size, s.MapOn, s.MapGood, s.Map, s.Link} }

// good tells whether it is one, in objects of so many bytes.
func (v view) good(object int) bool {
	return v.size >= 0 && v.size <= api.MaxImage && v.marked(object) && v.linked()
}

// marked tells whether it has the marks that it must have.
func (v view) marked(object int) bool {
	if !v.mapOn {
		return len(v.row) == 0 && !v.mapGood
	}
	_, err := marks.Put(v.row)
	return err == nil && len(v.row) == Objects(v.size, object)
}

// linked tells whether its link is one, or nothing.
func (v view) linked() bool {
	if v.Parent == "" {
		return v.Link == Link{}
	}
	return Named(v.Parent) && v.ParentSnap >= 1 && v.Overlap >= 0 && v.Overlap <= v.size
}

func (v view) same(other view) bool {
	return v.size == other.size && v.mapOn == other.mapOn && v.mapGood == other.mapGood && bytes.Equal(v.row, other.row) && v.Link == other.Link
}

// Same tells whether heads are the same.
func Same(a, b Head) bool {
	return a.numbers() == b.numbers() && a.view().same(b.view()) && slices.EqualFunc(a.Snaps, b.Snaps, sameSnap)
}

func sameSnap(a, b Snap) bool {
	return a.Num == b.Num && a.Name == b.Name && a.Protected == b.Protected && a.view().same(b.view()) && slices.Equal(a.Children, b.Children)
}

// numbers is what a head alone says in numbers.
func (h Head) numbers() [6]int {
	return [...]int{h.ID, h.Object, h.Seq, h.Owner, h.Intent, h.To}
}
