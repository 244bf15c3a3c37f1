package pool

import (
	"lamina/api"
	"lamina/journal"
)

// do does a change, and notes it, if there is anything to be noted.
func (p *Pool) do(c change) ([][]byte, error) {
	if p == nil {
		return nil, api.ErrState
	}
	if p.stuck {
		return nil, api.ErrDown
	}
	if !c.lasts() {
		return c.do(p.store)
	}
	// Another store is changed: the one that there is stays, if the change can't be noted.
	next := p.store.Copy()
	told, err := c.do(next)
	if err != nil {
		return nil, err
	}
	if err := p.note(c.text()); err != nil {
		p.stuck = isDown(err)
		return nil, err
	}
	p.store = next
	return told, nil
}

// note notes a transaction, ahead of which the log is let go, if there is no room left.
func (p *Pool) note(tx []byte) error {
	if journal.Need(len(tx)) > p.journal.Room() {
		if err := p.journal.Checkpoint(p.store.Put()); err != nil {
			return err
		}
	}
	return p.journal.Append(tx)
}

// isDown tells whether an error is the one by which a pool is stuck.
func isDown(err error) bool {
	e, ok := err.(api.Errno)
	return ok && e == api.ErrDown
}
