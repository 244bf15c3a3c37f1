package chain

import (
	"lamina/api"
	"lamina/data"
	"lamina/head"
	"lamina/image"
	"lamina/pool"
	"lamina/stripe"
)

const (
	maxDeep   = 8         // parents, one above the other
	maxAnswer = 1<<31 - 1 // bytes of an answer; a link that is handed in may say of more
)

// view is a view of an image, which is so many parents away from the one that was asked.
type view struct {
	id, object, num, size, deep int
	head.Link
}

// load is an image's view.
func load(p *pool.Pool, name string, num int) (view, error) {
	h, err := image.Load(p, name)
	if err != nil {
		return view{}, err
	}
	size, link, there := View(h, num)
	if !there {
		return view{}, api.ErrNone
	}
	return view{id: h.ID, object: h.Object, num: num, size: size, Link: link}, nil
}

// show is what the view shows: n bytes from at on, if it has these.
func (v view) show(p *pool.Pool, at, n int) ([]byte, error) {
	pieces, err := stripe.Pieces(v.size, v.object, at, n)
	if err != nil {
		return nil, err
	}
	b := make([]byte, n)
	// Pieces side by side that aren't there are asked of the parent at once: each time its header is read.
	done := 0
	for _, x := range pieces {
		part, there, err := v.part(p, x.Index)
		if err != nil {
			return nil, err
		}
		if !there {
			continue
		}
		if err := v.borrow(p, b[done:x.From], at+done); err != nil {
			return nil, err
		}
		done = x.From + x.Len
		copy(b[x.From:done], part[min(x.At, len(part)):])
	}
	if err := v.borrow(p, b[done:], at+done); err != nil {
		return nil, err
	}
	return b, nil
}

// part is a data object at the view.
func (v view) part(p *pool.Pool, index int) ([]byte, bool, error) {
	if v.deep > maxDeep {
		return nil, false, api.ErrCorrupt
	}
	part, there, err := data.At(p, v.id, index, v.num)
	if err != nil {
		return nil, false, api.ErrCorrupt
	}
	return part, there, nil
}

// borrow puts what the view shows of its parent from at on into noughts.
func (v view) borrow(p *pool.Pool, noughts []byte, at int) error {
	shown, err := v.base(p, at, len(noughts))
	copy(noughts, shown)
	return err
}

// base is what the view shows of its parent: at most n bytes from at on.
func (v view) base(p *pool.Pool, at, n int) ([]byte, error) {
	// A parent of which nothing is shown isn't needed, and may be broken.
	if v.Parent == "" || n == 0 || at >= v.Overlap {
		return nil, nil
	}
	parent, err := load(p, v.Parent, v.ParentSnap)
	if err != nil {
		return nil, api.ErrCorrupt
	}
	parent.deep = v.deep + 1
	b := make([]byte, min(n, v.Overlap-at, maxAnswer))
	from := min(at, parent.size)
	shown, err := parent.show(p, from, min(len(b), parent.size-from))
	if err != nil {
		return nil, err
	}
	copy(b, shown)
	return b, nil
}
