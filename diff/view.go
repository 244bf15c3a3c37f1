package diff

import (
	"lamina/api"
	"lamina/chain"
	"lamina/head"
	"lamina/image"
	"lamina/marks"
	"lamina/pool"
	"lamina/stripe"
)

const (
	now     = 0  // the number of an image's head, as a view
	nothing = -1 // stands for a view's number, where there is no view
)

// view is what is seen of a view.
type view struct {
	num, size int
	good      bool // whether its marks are good
	row       marks.Marks
	head.Link
}

// views is two views and those between them, each ahead of the next younger one.
type views []view

// load is two views of an image in a pool, with those between them, and how many bytes a data object of it has.
func load(p *pool.Pool, name string, from, to int) (views, int, error) {
	h, err := image.Load(p, name)
	if err != nil {
		return nil, 0, err
	}
	list, err := span(h, from, to)
	return list, h.Object, err
}

// span is two views of a good head, and those between them.
func span(h head.Head, from, to int) (views, error) {
	_, _, there := chain.View(h, to)
	if !there || from != nothing && h.Number(from) < 0 {
		return nil, api.ErrNone
	}
	if to != now && to <= from {
		return nil, api.ErrRange
	}
	var list views
	if from == nothing {
		list = append(list, view{num: nothing}) // without good marks: all objects are looked at
	}
	for _, s := range h.Snaps {
		if s.Num >= from && (to == now || s.Num <= to) {
			list = append(list, view{s.Num, s.Size, s.MapGood, s.Map, s.Link})
		}
	}
	if to == now {
		list = append(list, view{now, h.Size, h.MapGood, h.Map, h.Link})
	}
	return list, nil
}

func (l views) elder() view { return l[0] }

func (l views) younger() view { return l[len(l)-1] }

// looked tells of an object whether it is looked at: if it may have changed, or marks don't tell that of any.
func (l views) looked(object int) func(index int) bool {
	some, ok := l.changed(object)
	return func(index int) bool {
		_, may := some[index]
		return may || !ok
	}
}

// changed is the objects that may have changed by the marks; false, if these don't tell.
func (l views) changed(object int) (map[int]struct{}, bool) {
	if l.elder().Link != l.younger().Link {
		return nil, false
	}
	some := map[int]struct{}{}
	least, most := l.elder().size, l.elder().size
	for i, v := range l {
		if !v.good {
			return nil, false
		}
		least, most = min(least, v.size), max(most, v.size)
		if i == 0 {
			continue
		}
		for _, index := range v.row.Changed(l[i-1].row) {
			some[index] = struct{}{}
		}
	}
	edge, _ := stripe.Pieces(most, object, least, most-least) // no error: both are sizes that an image has
	for _, x := range edge {
		some[x.Index] = struct{}{}
	}
	return some, true
}

// shown is a view's bytes, with noughts for what isn't looked at.
func (v view) shown(p *pool.Pool, name string, object int, looked func(index int) bool) ([]byte, error) {
	pieces, err := stripe.Pieces(v.size, object, 0, v.size)
	if err != nil {
		return nil, err
	}
	b := make([]byte, v.size)
	for _, x := range pieces {
		if !looked(x.Index) {
			continue
		}
		part, err := chain.Read(p, name, v.num, x.From, x.Len)
		if err != nil {
			return nil, err
		}
		copy(b[x.From:], part)
	}
	return b, nil
}
