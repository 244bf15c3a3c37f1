package head

import (
	"bytes"

	"lamina/api"
	"lamina/marks"
	"lamina/wire"
)

// Put is a head's text.
func Put(h Head) ([]byte, error) {
	if !Good(h) {
		return nil, api.ErrForm
	}
	w := &wire.Writer{}
	for _, n := range [...]int{h.ID, h.Size, h.Object, h.Seq, len(h.Snaps)} {
		w.Num(n)
	}
	for _, s := range h.Snaps {
		s.put(w)
	}
	h.view().put(w)
	for _, n := range [...]int{h.Owner, h.Intent, h.To} {
		w.Num(n)
	}
	return w.Out(), nil
}

func (s Snap) put(w *wire.Writer) {
	w.Num(s.Num)
	w.Text(s.Name)
	w.Num(s.Size)
	s.view().put(w)
	w.Flag(s.Protected)
	w.Num(len(s.Children))
	for _, child := range s.Children {
		w.Text(child)
	}
}

// put puts what a head and a snapshot both say, but the size, which stands elsewhere.
func (v view) put(w *wire.Writer) {
	w.Flag(v.mapOn)
	w.Flag(v.mapGood)
	row, _ := marks.Put(v.row) // no error: the marks of a good head are such
	w.Bytes(row)
	w.Text(v.Parent)
	for _, n := range [...]int{v.ParentSnap, v.Overlap} {
		w.Num(n)
	}
}

// Take is the head of a text.
func Take(b []byte) (Head, error) {
	h := takeHead(wire.NewReader(b))
	// Other bytes may have been read alike: wrong counts, marks' bytes that are none, bytes that are left.
	text, err := Put(h)
	if err != nil || !bytes.Equal(text, b) {
		return Head{}, api.ErrForm
	}
	return h, nil
}

func takeHead(r *wire.Reader) Head {
	h := Head{ID: r.Num(), Size: r.Num(), Object: r.Num(), Seq: r.Num()}
	for range min(r.Num(), api.MaxSnaps) {
		h.Snaps = append(h.Snaps, takeSnap(r))
	}
	h.MapOn, h.MapGood, h.Map, h.Link = r.Flag(), r.Flag(), takeMarks(r), takeLink(r)
	h.Owner, h.Intent, h.To = r.Num(), r.Num(), r.Num()
	return h
}

func takeSnap(r *wire.Reader) Snap {
	s := Snap{Num: r.Num(), Name: r.Text(), Size: r.Num()}
	s.MapOn, s.MapGood, s.Map, s.Link = r.Flag(), r.Flag(), takeMarks(r), takeLink(r)
	s.Protected = r.Flag()
	for range r.Num() {
		child := r.Text()
		// What the count tells of need not be there: without an end here it would be gone through all the same.
		if !Named(child) {
			break
		}
		s.Children = append(s.Children, child)
	}
	return s
}

// takeMarks takes marks; bytes that are none are taken for no marks.
func takeMarks(r *wire.Reader) marks.Marks {
	row, _ := marks.Take(r.Bytes())
	return row
}

func takeLink(r *wire.Reader) Link {
	return Link{Parent: r.Text(), ParentSnap: r.Num(), Overlap: r.Num()}
}
