package diff

import (
	"bytes"

	"lamina/api"
	"lamina/wire"
)

// How a stream begins and ends.
const (
	title = "lamina diff 1"
	last  = 69
)

// Put is a diff's stream.
func Put(d Diff) ([]byte, error) {
	if !Good(d) {
		return nil, api.ErrForm
	}
	w := &wire.Writer{}
	w.Text(title)
	w.Num(d.From)
	w.Num(d.To)
	w.Num(len(d.Records))
	for _, r := range d.Records {
		r.put(w)
	}
	w.Byte(last)
	return w.Out(), nil
}

func (r Record) put(w *wire.Writer) {
	w.Num(r.At)
	w.Num(r.Len)
	w.Flag(r.Zero)
	if !r.Zero {
		w.Bytes(r.Data)
	}
}

// Take is the diff of a stream.
func Take(b []byte) (Diff, error) {
	d := takeDiff(wire.NewReader(b))
	// Other bytes may have been read alike: another title or last byte, a wrong count, bytes that are left.
	stream, err := Put(d)
	if err != nil || !bytes.Equal(stream, b) {
		return Diff{}, api.ErrForm
	}
	return d, nil
}

func takeDiff(r *wire.Reader) Diff {
	_ = r.Text()
	d := Diff{From: r.Num(), To: r.Num()}
	// More records than an image has bytes are none of a diff, and need not be there, whatever the count tells.
	for range min(r.Num(), api.MaxImage) {
		d.Records = append(d.Records, takeRecord(r))
	}
	return d
}

func takeRecord(r *wire.Reader) Record {
	x := Record{At: r.Num(), Len: r.Num(), Zero: r.Flag()}
	if !x.Zero {
		x.Data = r.Bytes()
	}
	return x
}
