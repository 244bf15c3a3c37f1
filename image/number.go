package image

import (
	"math"

	"lamina/api"
	"lamina/pool"
	"lamina/wire"
)

// counter is the name of the object that is the next image's number.
const counter = "next"

// Number is the next image's number.
func Number(p *pool.Pool, client int) (int, error) {
	n, err := next(p)
	if err != nil {
		return 0, err
	}
	w := &wire.Writer{}
	w.Num(n + 1)
	if err := operate(p, client, counter, api.Step{Kind: api.Make}, api.Step{Kind: api.Write, Data: w.Out()}); err != nil {
		return 0, err
	}
	return n, nil
}

// next is the counter's number.
func next(p *pool.Pool) (int, error) {
	text, there := p.Look(counter)
	if !there {
		return 0, nil
	}
	r := wire.NewReader(text)
	n := r.Num()
	if r.End() != nil || n < 0 || n >= math.MaxInt32 {
		return 0, api.ErrCorrupt
	}
	return n, nil
}
