package diff

import (
	"maps"
	"slices"

	"lamina/head"
	"lamina/pool"
)

// Export is the stream of the diff between two views.
func Export(p *pool.Pool, image string, from, to int) ([]byte, error) {
	seen, object, err := load(p, image, from, to)
	if err != nil {
		return nil, err
	}
	looked := seen.looked(object)
	old, err := seen.elder().shown(p, image, object, looked)
	if err != nil {
		return nil, err
	}
	fresh, err := seen.younger().shown(p, image, object, looked)
	if err != nil {
		return nil, err
	}
	// What isn't looked at is noughts in both of them: nothing is told of it.
	d, err := Between(old, fresh, object)
	if err != nil {
		return nil, err
	}
	return Put(d)
}

// ByMarks is which objects may have changed.
func ByMarks(h head.Head, from, to int) ([]int, bool) {
	if !head.Good(h) {
		return nil, false
	}
	seen, err := span(h, from, to)
	if err != nil {
		return nil, false
	}
	some, ok := seen.changed(h.Object)
	return slices.Sorted(maps.Keys(some)), ok
}
