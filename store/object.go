package store

import (
	"maps"
	"slices"

	"lamina/api"
)

// object is an object.
type object struct {
	data    []byte
	attrs   map[string][]byte // a value is never changed, but another one put in its place
	extents []api.Extent
}

// like is an object like it, which may be changed.
func (o *object) like() object {
	return object{slices.Clone(o.data), maps.Clone(o.attrs), slices.Clone(o.extents)}
}

// resize gives it so many bytes; new ones are noughts.
func (o *object) resize(n int) {
	if n > len(o.data) {
		o.data = append(o.data, make([]byte, n-len(o.data))...)
	}
	o.data = o.data[:n]
}

// write puts bytes at a place, and noughts ahead of them where there is nothing yet.
func (o *object) write(at int, b []byte) {
	if len(b) == 0 {
		return
	}
	o.resize(max(len(o.data), at+len(b)))
	copy(o.data[at:], b)
}

// part is its bytes from a place on, at most so many.
func (o *object) part(at, n int) []byte {
	rest := o.data[min(at, len(o.data)):]
	return rest[:min(n, len(rest))]
}

// needs is how many blocks its bytes fill.
func (o *object) needs() int {
	return (len(o.data) + api.BlockSize - 1) / api.BlockSize
}

// has is how many blocks its extents have.
func (o *object) has() int {
	n := 0
	for _, e := range o.extents {
		n += e.Len
	}
	return n
}

// shed lets its last blocks go, so many of them, and tells which.
func (o *object) shed(n int) []api.Extent {
	var list []api.Extent
	for n > 0 {
		last := len(o.extents) - 1
		e := &o.extents[last]
		gone := min(n, e.Len)
		e.Len -= gone
		n -= gone
		list = append(list, api.Extent{At: e.At + e.Len, Len: gone})
		if e.Len == 0 {
			o.extents = o.extents[:last]
		}
	}
	return list
}
