package snap

import (
	"bytes"
	"slices"

	"lamina/api"
)

// change is the object that comes of another one by what is done with it in a context, if it may be done.
func change(o Object, c api.Context, may func() error, does func(*Object)) (Object, error) {
	if !Good(o) {
		return Object{}, api.ErrForm
	}
	if !isContext(c) || c.Seq < o.Seq {
		return Object{}, api.ErrRange
	}
	if err := may(); err != nil {
		return Object{}, err
	}
	next := o.like()
	next.see(c)
	if len(next.Clones) > maxClones {
		return Object{}, api.ErrRange
	}
	does(&next)
	return next, nil
}

// isContext tells whether a context is good.
func isContext(c api.Context) bool {
	if c.Seq < 0 || len(c.Snaps) > api.MaxSnaps {
		return false
	}
	last := 0
	for _, s := range slices.Backward(c.Snaps) {
		if s <= last || s > c.Seq {
			return false
		}
		last = s
	}
	return true
}

// see is what is done before the head changes: it is kept for the snapshots that the object hasn't seen.
func (o *Object) see(c api.Context) {
	var unseen []int
	// A context tells the newest snapshot first, a clone the eldest one.
	for _, s := range slices.Backward(c.Snaps) {
		if s > o.Seq {
			unseen = append(unseen, s)
		}
	}
	if o.There && len(unseen) > 0 {
		o.Clones = append(o.Clones, Clone{Snaps: unseen, Data: bytes.Clone(o.Data)})
	}
	o.Seq = c.Seq
}

// changes is the error of a change of the bytes that the head has.
func (o *Object) changes(inRange bool) error {
	if !inRange {
		return api.ErrRange
	}
	if !o.There {
		return api.ErrNone
	}
	return nil
}

// grow gives the head so many bytes at least; new ones are noughts.
func (o *Object) grow(n int) {
	o.Data = append(o.Data, make([]byte, max(0, n-len(o.Data)))...)
}

// like is the same object, of its own memory.
func (o *Object) like() Object {
	next := *o
	next.Data = bytes.Clone(o.Data)
	next.Clones = slices.Clone(o.Clones)
	for i, c := range next.Clones {
		next.Clones[i] = Clone{Snaps: slices.Clone(c.Snaps), Data: bytes.Clone(c.Data)}
	}
	return next
}
