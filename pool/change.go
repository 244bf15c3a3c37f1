package pool

import (
	"bytes"

	"lamina/api"
	"lamina/store"
	"lamina/wire"
)

// The kinds of changes, as their texts begin.
const (
	operation = 1 + iota
	blocking
)

// change is what a transaction tells: an operation, or that a client is blocked.
type change struct {
	kind   byte
	name   string     // of an operation's object
	steps  []api.Step // of an operation
	client int        // who is blocked
}

// do does it with a store.
func (c change) do(s *store.Store) ([][]byte, error) {
	if c.kind == blocking {
		return nil, s.Block(c.client)
	}
	return s.Do(c.name, c.steps...)
}

// lasts tells whether there is anything that has to outlive a crash.
func (c change) lasts() bool {
	for _, s := range c.steps {
		switch s.Kind {
		case api.Make, api.Drop, api.Write, api.Zero, api.Cut, api.SetAttr, api.DropAttr:
			return true
		}
	}
	return c.kind == blocking
}

// text is its transaction's text.
func (c change) text() []byte {
	w := &wire.Writer{}
	w.Byte(c.kind)
	if c.kind == blocking {
		w.Num(c.client)
		return w.Out()
	}
	w.Text(c.name)
	w.Num(len(c.steps))
	for _, s := range c.steps {
		w.Num(s.Kind)
		w.Num(s.At)
		w.Num(s.Len)
		w.Text(s.Name)
		w.Bytes(s.Data)
	}
	return w.Out()
}

// changeOf is the change whose text it is; false, if it isn't just the text of one.
func changeOf(text []byte) (change, bool) {
	r := wire.NewReader(text)
	c := change{kind: r.Byte()}
	switch c.kind {
	case operation:
		c.name, c.steps = r.Text(), steps(r)
	case blocking:
		c.client = r.Num()
	default:
		return change{}, false
	}
	// Other bytes may have been read alike: a count below 0 or of more steps than there are, bytes that are left.
	return c, bytes.Equal(c.text(), text)
}

// steps is the steps that a reader comes to, at most as many as are told of.
func steps(r *wire.Reader) []api.Step {
	var list []api.Step
	for range r.Num() {
		if r.Left() == 0 {
			break // however many steps are told of, there aren't any more
		}
		list = append(list, api.Step{Kind: r.Num(), At: r.Num(), Len: r.Num(), Name: r.Text(), Data: r.Bytes()})
	}
	return list
}

// redone does what a text tells with a store, and tells whether that could be done.
func redone(s *store.Store, text []byte) bool {
	c, ok := changeOf(text)
	if !ok {
		return false
	}
	_, err := c.do(s)
	return err == nil
}
