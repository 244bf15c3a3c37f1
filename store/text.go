package store

import (
	"bytes"

	"lamina/api"
	"lamina/wire"
)

// Put is its text.
func (s *Store) Put() []byte {
	if s == nil {
		return nil
	}
	w := &wire.Writer{}
	w.Num(s.space.Len())
	for _, blocked := range s.blocked {
		w.Flag(blocked)
	}
	w.Num(len(s.objects))
	for _, name := range s.Names("") {
		s.put(w, name)
	}
	return w.Out()
}

// put puts an object.
func (s *Store) put(w *wire.Writer, name string) {
	o := s.objects[name]
	w.Text(name)
	w.Bytes(o.data)
	w.Num(len(o.attrs))
	for _, a := range s.Attrs(name) {
		w.Text(a.Name)
		w.Bytes(a.Value)
	}
	w.Num(len(o.extents))
	for _, e := range o.extents {
		w.Num(e.At)
		w.Num(e.Len)
	}
}

// Take is the store of a text.
func Take(b []byte) (*Store, error) {
	r := wire.NewReader(b)
	s, err := New(r.Num())
	if err != nil {
		return nil, api.ErrForm
	}
	for i := range s.blocked {
		s.blocked[i] = r.Flag()
	}
	for range r.Num() {
		if !s.take(r) {
			return nil, api.ErrForm
		}
	}
	// Other bytes may have been read alike: counts below 0, names that don't rise or are there twice, bytes that are left.
	if !bytes.Equal(s.Put(), b) {
		return nil, api.ErrForm
	}
	return s, nil
}

// take takes an object, and tells whether there is one that a store may have.
func (s *Store) take(r *wire.Reader) bool {
	name := r.Text()
	o := &object{data: r.Bytes(), attrs: map[string][]byte{}}
	if !isName(name) || len(o.data) > maxBytes || !o.takeAttrs(r) || !s.takeExtents(o, r) {
		return false
	}
	s.objects[name] = o
	return true
}

func (o *object) takeAttrs(r *wire.Reader) bool {
	for range r.Num() {
		name, value := r.Text(), r.Bytes()
		if !isName(name) || len(value) > maxValue {
			return false
		}
		o.attrs[name] = value
	}
	return true
}

func (s *Store) takeExtents(o *object, r *wire.Reader) bool {
	for range r.Num() {
		e := api.Extent{At: r.Num(), Len: r.Num()}
		if s.space.Claim(e) != nil {
			return false
		}
		o.extents = append(o.extents, e)
	}
	return o.has() == o.needs()
}
