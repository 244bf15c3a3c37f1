package data

import (
	"bytes"

	"lamina/api"
	"lamina/pool"
	"lamina/snap"
)

// nobody is the client of a change for which no client is needed.
const nobody = -1

// Do changes a data object.
func Do(p *pool.Pool, client, id, index int, c api.Context, x Change) error {
	o, err := Get(p, id, index)
	if err != nil {
		return err
	}
	name := Name(id, index)
	var steps []api.Step
	if client != nobody {
		steps = append(steps, api.Step{Kind: api.NeedAllowed, At: client})
	}
	if !x.rests(o) {
		was, _ := p.Look(name)
		text, err := x.text(o, c)
		if err != nil {
			return err
		}
		if client != nobody || !bytes.Equal(text, was) {
			steps = append(steps, replace(was, text)...)
		}
	}
	// An operation without steps would be refused.
	if len(steps) == 0 {
		return nil
	}
	_, err = p.Do(name, steps...)
	return err
}

// rests tells whether a change does nothing with an object, whatever place, bytes and context it is told of.
func (x Change) rests(o snap.Object) bool {
	switch x.Kind {
	case Zero, Cut:
		return !o.There
	case Over:
		return o.There
	}
	return false
}

// text is the text of what a change makes of an object; none, if that is empty.
func (x Change) text(o snap.Object, c api.Context) ([]byte, error) {
	next, err := x.of(o, c)
	if err != nil || snap.Empty(next) {
		return nil, err
	}
	return snap.Put(next)
}

// of is what a change makes of an object with which it doesn't rest.
func (x Change) of(o snap.Object, c api.Context) (snap.Object, error) {
	switch x.Kind {
	case Write:
		return snap.Write(o, c, x.At, x.Data)
	case Zero:
		return snap.Zero(o, c, x.At, x.N)
	case Cut:
		return snap.Cut(o, c, x.N)
	case Drop:
		return snap.Drop(o, c)
	case Back:
		return snap.Back(o, c, x.At)
	case Trim:
		return snap.Trim(o, x.At)
	case Over:
		return snap.Write(o, c, 0, x.Data)
	}
	return snap.Object{}, api.ErrForm
}

// replace is the steps that bring a text to another one. No object has the text of no bytes: it stands for none that is there.
func replace(was, text []byte) []api.Step {
	switch {
	case len(text) > 0:
		return []api.Step{{Kind: api.Make}, {Kind: api.Write, Data: text}, {Kind: api.Cut, At: len(text)}}
	case len(was) > 0:
		return []api.Step{{Kind: api.Drop}}
	}
	return nil
}
