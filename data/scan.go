package data

import (
	"slices"
	"strconv"
	"strings"

	"lamina/api"
	"lamina/pool"
	"lamina/snap"
)

// placed is a data object and its index.
type placed struct {
	index  int
	object snap.Object
}

// Scan is which data objects are there, and haven't changed.
func Scan(p *pool.Pool, id, objects, s, before int) (there, clean []bool, err error) {
	list, err := first(p, id, objects)
	if err != nil {
		return nil, nil, err
	}
	there, clean = make([]bool, max(0, objects)), make([]bool, max(0, objects))
	for _, x := range list {
		_, there[x.index] = snap.At(x.object, s)
		clean[x.index] = there[x.index] && alike(x.object, s, before)
	}
	return there, clean, nil
}

// first is the first so many data objects of an image, but for those of which the pool has nothing.
// It goes over what the pool has, so that one that can't be read is found however many are asked for.
func first(p *pool.Pool, id, objects int) ([]placed, error) {
	if p == nil && objects > 0 {
		return nil, api.ErrState
	}
	var list []placed
	for _, name := range p.Names(prefix(id)) {
		// Of figures that are no data object's (01) the number's data object is read, which is right, too.
		index, err := strconv.Atoi(strings.TrimPrefix(name, prefix(id)))
		if err != nil || index < 0 || index >= objects {
			continue
		}
		o, err := Get(p, id, index)
		if err != nil {
			return nil, err
		}
		list = append(list, placed{index, o})
	}
	return list, nil
}

// alike tells whether an object that is there at a snapshot (0: the head) hasn't changed since another one.
// Where before is 0, there is no other one: it is above no Seq, and in no clone.
func alike(o snap.Object, s, before int) bool {
	if before > o.Seq && (s == 0 || s > o.Seq) {
		return true
	}
	return slices.ContainsFunc(o.Clones, func(c snap.Clone) bool {
		return slices.Contains(c.Snaps, s) && slices.Contains(c.Snaps, before)
	})
}
