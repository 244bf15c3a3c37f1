package chain_test

import (
	"fmt"
	"testing"

	"lamina/api"
	"lamina/chain"
	"lamina/head"
	"lamina/image"
)

// kid is a head of 70 bytes in data objects of 16, of which the first 40 bytes are mum's.
func kid() head.Head { return snapped(2, 70, 16, link("mum", 1, 40)) }

// P16.1: a view that is needed is broken

// Whatever is wrong with the parent, just what is needed of it can't be read.
func TestBrokenParent(t *testing.T) {
	spoilt := "no head's text"
	for i, mum := range []string{"", spoilt, "no snapshot", "another snapshot", "no bytes"} {
		p, _ := roomy(t)
		switch mum {
		case "", spoilt:
			if mum != "" {
				lay(t, p, "h.mum", mum)
			}
		case "no snapshot":
			create(t, p, "mum", plain(1, 70, 16))
		case "another snapshot":
			h := snapped(1, 70, 16, head.Link{})
			h.Seq, h.Snaps[0].Num = 2, 2
			create(t, p, "mum", h)
		case "no bytes":
			lay(t, p, "h.mum", "")
		}
		create(t, p, "kid", kid())
		put(t, p, 2, 1, object("SECOND", 0))
		before := stored(p)
		for _, num := range []int{0, 1} {
			fails(t, p, "kid", num, 0, 70, api.ErrCorrupt)
			fails(t, p, "kid", num, 0, 1, api.ErrCorrupt)
			fails(t, p, "kid", num, 15, 1, api.ErrCorrupt)
			fails(t, p, "kid", num, 15, 2, api.ErrCorrupt)
			fails(t, p, "kid", num, 31, 2, api.ErrCorrupt)
			fails(t, p, "kid", num, 39, 1, api.ErrCorrupt)
			fails(t, p, "kid", num, 39, 31, api.ErrCorrupt)
			reads(t, p, "kid", num, 16, "SECOND"+no(10))
			reads(t, p, "kid", num, 40, no(30))
			reads(t, p, "kid", num, 17, "ECO")
			reads(t, p, "kid", num, 0, "")
			reads(t, p, "kid", num, 20, "")
			owns(t, p, "kid", num, 0, false, nil)
			owns(t, p, "kid", num, 1, true, nil)
			fails(t, p, "kid", num, 0, 71, api.ErrRange) // this comes ahead of what is broken
		}
		bases(t, p, kid().Link, 0, 16, "", api.ErrCorrupt)
		bases(t, p, kid().Link, 39, 16, "", api.ErrCorrupt)
		bases(t, p, kid().Link, 40, 16, "", nil)
		if stored(p) != before {
			t.Errorf("row %d: something is changed", i)
		}
	}
}

// A data object that can't be read breaks what is asked of it, and nothing else.
func TestBrokenObject(t *testing.T) {
	p, _ := roomy(t)
	mum := snapped(1, 70, 32, head.Link{})
	mum.Snaps[0].Size = 36
	create(t, p, "mum", mum)
	create(t, p, "kid", kid())
	put(t, p, 1, 0, object("0123456789abcdef0123456789abcdef", 0))
	put(t, p, 2, 0, object("FIRST", 0))
	lay(t, p, "d.1.1", "spoilt")
	lay(t, p, "d.2.3", "")
	lay(t, p, "d.1.3", "spoilt, but of a number that there isn't")
	lay(t, p, "d.2.5", "spoilt likewise")
	for _, num := range []int{0, 1} {
		reads(t, p, "mum", num, 0, "0123456789abcdef0123456789abcdef")
		fails(t, p, "mum", num, 31, 2, api.ErrCorrupt)
		fails(t, p, "mum", num, 35, 1, api.ErrCorrupt)
		reads(t, p, "mum", num, 33, "")
		reads(t, p, "kid", num, 0, "FIRST"+no(11)+"0123456789abcdef")
		fails(t, p, "kid", num, 0, 33, api.ErrCorrupt)
		fails(t, p, "kid", num, 35, 1, api.ErrCorrupt)
		reads(t, p, "kid", num, 36, no(12)) // neither mum's view nor, from 40 on, Overlap has these
		fails(t, p, "kid", num, 47, 2, api.ErrCorrupt)
		fails(t, p, "kid", num, 63, 1, api.ErrCorrupt)
		reads(t, p, "kid", num, 64, no(6))
		fails(t, p, "kid", num, 0, 70, api.ErrCorrupt)
		owns(t, p, "kid", num, 3, false, api.ErrCorrupt)
		owns(t, p, "kid", num, 2, false, nil) // what the parent has isn't asked
		owns(t, p, "mum", num, 1, false, api.ErrCorrupt)
	}
	reads(t, p, "mum", 0, 64, no(6))
	bases(t, p, kid().Link, 0, 32, "0123456789abcdef0123456789abcdef", nil)
	bases(t, p, kid().Link, 31, 2, "", api.ErrCorrupt)
	bases(t, p, kid().Link, 36, 9, no(4), nil)
	bases(t, p, link("mum", 1, 32), 31, 9, "f", nil)
	lay(t, p, "d.1.0", "spoilt")
	reads(t, p, "kid", 0, 0, "FIRST"+no(11)) // nothing of it is needed
	fails(t, p, "kid", 0, 15, 2, api.ErrCorrupt)
}

// name is the name of the image that stands so many parents deep.
func name(deep int) string { return fmt.Sprint("deep-", deep) }

// A view may stand 8 parents deep.
func TestDeep(t *testing.T) {
	p, _ := roomy(t)
	const most = 12
	for i := range most + 1 {
		l := link(name(i+1), 1, 32)
		if i == most {
			l = head.Link{}
		}
		create(t, p, name(i), snapped(i, 32, 16, l))
	}
	put(t, p, most, 0, object("bottom", 0))
	for from := range most + 1 {
		for num := range 2 {
			if most-from <= 8 {
				reads(t, p, name(from), num, 0, "bottom"+no(26))
				continue
			}
			fails(t, p, name(from), num, 0, 1, api.ErrCorrupt)
			fails(t, p, name(from), num, 31, 1, api.ErrCorrupt)
			reads(t, p, name(from), num, 32, "")
		}
		// A view with the link of this one stands as deep as this one.
		bad, asked := error(nil), "bottom"+no(10)
		if most-from > 8 {
			bad, asked = api.ErrCorrupt, ""
		}
		if from < most {
			bases(t, p, link(name(from+1), 1, 16), 0, 99, asked, bad)
		}
	}
	// What stands in between is found, whatever is broken further up.
	for deep := most; deep >= 0; deep-- {
		text := fmt.Sprint("object-", deep)
		put(t, p, deep, 1, object(text, 0))
		for from := range deep + 1 {
			if deep-from > 8 {
				fails(t, p, name(from), 0, 16, 16, api.ErrCorrupt)
			} else {
				reads(t, p, name(from), 1, 16, text+no(16-len(text)))
			}
			if most-from > 8 {
				fails(t, p, name(from), 0, 15, 2, api.ErrCorrupt)
			}
		}
	}
}

// Who is its own parent, by however many others, shows what can be found, and the rest is broken.
func TestCircle(t *testing.T) {
	for _, long := range []int{1, 2, 3, 8, 9, 10} {
		p, _ := roomy(t)
		for i := range long {
			create(t, p, name(i), snapped(i, 64, 16, link(name((i+1)%long), 1, 50)))
		}
		put(t, p, long-1, 0, object("here", 0))
		for i := range long {
			for num := range 2 {
				if long-1-i <= 8 {
					reads(t, p, name(i), num, 0, "here"+no(12))
				} else {
					fails(t, p, name(i), num, 0, 16, api.ErrCorrupt)
				}
				fails(t, p, name(i), num, 16, 1, api.ErrCorrupt)
				fails(t, p, name(i), num, 49, 1, api.ErrCorrupt)
				fails(t, p, name(i), num, 0, 64, api.ErrCorrupt)
				reads(t, p, name(i), num, 50, no(14))
			}
		}
	}
}

// A view that stands too deep, and has no more bytes, is asked for no data object.
func TestDeepAndShort(t *testing.T) {
	p, _ := roomy(t)
	for i := range 9 {
		create(t, p, name(i), snapped(i, 32, 16, link(name(i+1), 1, 32)))
	}
	create(t, p, name(9), snapped(9, 20, 16, head.Link{}))
	fails(t, p, name(0), 0, 19, 1, api.ErrCorrupt)
	reads(t, p, name(0), 0, 20, no(12))
	must(t, image.Delete(p, -1, name(9)))
	fails(t, p, name(0), 0, 20, 12, api.ErrCorrupt)
}

// P16.2: what is read in pieces is what is read at once; it is broken, if one of the pieces is.

func TestPieces(t *testing.T) {
	p, _ := family(t)
	lay(t, p, "d.1.3", "spoilt")
	for _, name := range []string{"mum", "kid", "tot"} {
		h, err := image.Load(p, name)
		must(t, err)
		for _, num := range []int{0, 1} {
			size, l, _ := chain.View(h, num)
			for at := range size + 1 {
				for n := range size - at + 1 {
					if n > 20 && n%7 > 0 {
						continue
					}
					all, err := chain.Read(p, name, num, at, n)
					b, bad := inPieces(n, 1+(at+n)%9, func(from, n int) ([]byte, error) { return chain.Read(p, name, num, at+from, n) })
					if want(t, "Read", err, bad); string(all) != string(b) {
						t.Errorf("%s@%d, %d from %d on: at once %q, in pieces %q", name, num, n, at, all, b)
					}
					all, err = chain.Base(p, l, at, n)
					b, bad = inPieces(n, 1+(at+n)%9, func(from, n int) ([]byte, error) { return chain.Base(p, l, at+from, n) })
					if want(t, "Base", err, bad); string(all) != string(b) {
						t.Errorf("%v, %d from %d on: at once %q, in pieces %q", l, n, at, all, b)
					}
				}
			}
		}
	}
}

// inPieces is n bytes that are asked for in pieces of so many at most; none, if one of them has an error.
func inPieces(n, most int, ask func(from, n int) ([]byte, error)) ([]byte, error) {
	var b []byte
	for from := 0; from < n; from += most {
		part, err := ask(from, min(most, n-from))
		if err != nil {
			return nil, err
		}
		b = append(b, part...)
	}
	return b, nil
}

// P16.3: nothing is changed; answers are new memory

func TestAnswers(t *testing.T) {
	p, d := family(t)
	before, done := stored(p), d.Steps()
	for range 2 {
		for _, name := range []string{"mum", "kid", "tot"} {
			for _, num := range []int{0, 1} {
				a, err := chain.Read(p, name, num, 0, 20)
				must(t, err)
				b, err := chain.Read(p, name, num, 0, 20)
				must(t, err)
				asked := dots(b)
				spoil(a)
				if dots(b) != asked {
					t.Error("two answers share memory")
				}
				reads(t, p, name, num, 0, asked)
				a, err = chain.Base(p, link(name, num, 20), 0, 20)
				must(t, err)
				spoil(a)
				bases(t, p, link(name, num, 20), 0, 20, asked, nil)
			}
		}
	}
	if stored(p) != before || d.Steps() != done || p.Len() == 0 {
		t.Error("something is changed")
	}
}

// spoil writes over all that a row of bytes holds, spare room included.
func spoil(b []byte) {
	for i := range b[:cap(b)] {
		b[:cap(b)][i] = '!'
	}
}

// The head that View is handed is neither changed nor kept.
func TestViewLeaves(t *testing.T) {
	h := kid()
	h.Snaps = append(h.Snaps, head.Snap{Num: 2, Name: "t", Size: 3})[:1]
	size, l, ok := chain.View(h, 1)
	if size != 70 || l != link("mum", 1, 40) || !ok || !head.Same(h, kid()) || h.Snaps[:2][1].Name != "t" {
		t.Error(size, l, ok, h)
	}
	if _, _, ok := chain.View(h, 2); ok {
		t.Error("what stands in spare room is no snapshot")
	}
}
