package store

import (
	"bytes"

	"lamina/api"
)

// work is an operation that is under way: the object as its steps have left it so far, and what they have told.
type work struct {
	object
	there bool
	told  [][]byte
	store *Store
}

// begin begins an operation on the object of a name.
func (s *Store) begin(name string) *work {
	w := &work{store: s}
	if o := s.object(name); o != nil {
		w.object, w.there = o.like(), true
	}
	return w
}

// end brings the blocks to what is needed, and puts the object in its place. With an error nothing is done.
func (s *Store) end(name string, w *work) error {
	if err := w.fit(); err != nil {
		return err
	}
	if w.there {
		o := w.object // alone: what was told isn't kept with it
		s.objects[name] = &o
	} else {
		delete(s.objects, name)
	}
	return nil
}

// fit brings its blocks to what it needs.
func (w *work) fit() error {
	room := w.store.space
	if over := w.has() - w.needs(); over > 0 {
		return room.Give(w.shed(over)...)
	}
	list, err := room.Take(w.needs() - w.has())
	if err != nil {
		return err
	}
	w.extents = append(w.extents, list...)
	return nil
}

// do does a step.
func (w *work) do(s api.Step) error {
	switch s.Kind {
	case api.NeedThere, api.NeedAbsent, api.NeedAttr, api.NeedNoAttr, api.NeedAllowed:
		return w.need(s)
	case api.Make:
		w.become(true)
		return nil
	case api.Drop:
		w.become(false)
		return nil
	case api.Write, api.Zero, api.Cut, api.SetAttr, api.DropAttr, api.Read, api.GetAttr:
		if !w.there {
			return api.ErrNone
		}
		return w.inside(s)
	}
	return api.ErrForm
}

// need asks what a step asks for.
func (w *work) need(s api.Step) error {
	value, ok := w.attrs[s.Name]
	switch s.Kind {
	case api.NeedThere:
		return unless(w.there, api.ErrNone)
	case api.NeedAbsent:
		return unless(!w.there, api.ErrExists)
	case api.NeedAttr:
		return unless(ok && bytes.Equal(value, s.Data), api.ErrGuard)
	case api.NeedNoAttr:
		return unless(!ok, api.ErrGuard)
	}
	if !isClient(s.At) {
		return api.ErrRange
	}
	return unless(!w.store.Blocked(s.At), api.ErrBlocked)
}

// become makes the object, if it isn't there, or drops it. What blocks it had stay its own till the steps are done.
func (w *work) become(there bool) {
	if w.there != there {
		w.object = object{attrs: map[string][]byte{}, extents: w.extents}
		w.there = there
	}
}

// inside does a step on an object that is there.
func (w *work) inside(s api.Step) error {
	switch s.Kind {
	case api.SetAttr, api.DropAttr, api.GetAttr:
		return w.attr(s)
	}
	if !reaches(s) {
		return api.ErrRange
	}
	switch s.Kind {
	case api.Write:
		w.write(s.At, s.Data)
	case api.Zero:
		clear(w.part(s.At, s.Len))
	case api.Cut:
		w.resize(s.At)
	case api.Read:
		w.tell(w.part(s.At, s.Len))
	}
	return nil
}

// reaches tells whether the place of a step that goes to an object's bytes is one.
func reaches(s api.Step) bool {
	switch s.Kind {
	case api.Write:
		// Their end isn't told by At and the data's length, which may wrap around.
		return s.At >= 0 && s.At <= maxBytes-len(s.Data)
	case api.Cut:
		return s.At >= 0 && s.At <= maxBytes
	}
	return s.At >= 0 && s.Len >= 0
}

// attr does a step on an attribute.
func (w *work) attr(s api.Step) error {
	switch s.Kind {
	case api.SetAttr:
		if !isName(s.Name) || len(s.Data) > maxValue {
			return api.ErrRange
		}
		w.attrs[s.Name] = bytes.Clone(s.Data)
	case api.DropAttr:
		delete(w.attrs, s.Name)
	case api.GetAttr:
		value, ok := w.attrs[s.Name]
		if !ok {
			return api.ErrNone
		}
		w.tell(value)
	}
	return nil
}

// tell keeps bytes as they are now, to be told.
func (w *work) tell(b []byte) {
	w.told = append(w.told, bytes.Clone(b))
}

// unless is an error, unless what is asked for holds.
func unless(ok bool, err api.Errno) error {
	if ok {
		return nil
	}
	return err
}
