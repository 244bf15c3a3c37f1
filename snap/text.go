package snap

import (
	"bytes"

	"lamina/api"
	"lamina/wire"
)

// Put is an object's text.
func Put(o Object) ([]byte, error) {
	if !Good(o) {
		return nil, api.ErrForm
	}
	w := &wire.Writer{}
	w.Flag(o.There)
	w.Bytes(o.Data)
	w.Num(o.Seq)
	w.Num(len(o.Clones))
	for _, c := range o.Clones {
		w.Nums(c.Snaps)
		w.Bytes(c.Data)
	}
	return w.Out(), nil
}

// Take is the object of a text.
func Take(b []byte) (Object, error) {
	r := wire.NewReader(b)
	o := Object{There: r.Flag(), Data: r.Bytes(), Seq: r.Num()}
	for range min(r.Num(), maxClones) {
		o.Clones = append(o.Clones, Clone{Snaps: r.Nums(), Data: r.Bytes()})
	}
	// Other bytes may have been read alike: a count below 0 or above 16, bytes that are left.
	text, err := Put(o)
	if err != nil || !bytes.Equal(text, b) {
		return Object{}, api.ErrForm
	}
	return o, nil
}
