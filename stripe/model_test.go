package stripe_test

import (
	"slices"
	"testing"

	"lamina/stripe"
)

// place is where a byte of an image stands.
type place struct{ index, at int }

// places is where each byte of an image stands, byte by byte.
func places(size, object int) []place {
	var l []place
	p := place{}
	for range size {
		l = append(l, p)
		if p.at++; p.at == object {
			p = place{index: p.index + 1}
		}
	}
	return l
}

// gathered is the pieces of a row of bytes, of which each is put to the last piece, if it stands in the same object.
func gathered(row []place) []stripe.Piece {
	var l []stripe.Piece
	for i, p := range row {
		if last := len(l) - 1; last >= 0 && l[last].Index == p.index {
			l[last].Len++
			continue
		}
		l = append(l, stripe.Piece{Index: p.index, At: p.at, Len: 1, From: i})
	}
	return l
}

// standing is the numbers of the objects in which a row of bytes stands, rising.
func standing(row []place) []int {
	var l []int
	for _, p := range row {
		l = append(l, p.index)
	}
	return slices.Compact(l)
}

// cutOff is what is cut off, by the objects in which what stays and what goes stands.
func cutOff(row []place, to int) off {
	stays, goes := standing(row[:to]), standing(row[to:])
	o := off{first: len(stays)}
	o.last = o.first
	for _, index := range goes {
		if !slices.Contains(stays, index) {
			o.last = index + 1
			continue
		}
		o.edge = gathered(row[to:])[0]
	}
	return o
}

// dice is numbers that hang on its seed alone.
type dice uint64

func (r *dice) below(n int) int {
	*r = *r*6364136223846793005 + 1442695040888963407
	return int(uint64(*r)>>33) % n
}

// P12.1, P12.2: all ranges of short images

func TestAllShortRanges(t *testing.T) {
	for _, object := range []int{16, 32} {
		for size := range 2*object + 7 {
			row := places(size, object)
			for at := -2; at <= size+2; at++ {
				for n := -2; n <= size+2; n++ {
					if at < 0 || n < 0 || at+n > size {
						noPieces(t, size, object, at, n)
						continue
					}
					pieces(t, size, object, at, n, gathered(row[at:at+n])...)
				}
			}
		}
	}
}

// P12.1, P12.2: any ranges of any images

func TestAnyRanges(t *testing.T) {
	r := dice(12)
	for range 3000 {
		object, size := objects()[r.below(5)], r.below(4097)
		row := places(size, object)
		at := r.below(size + 1)
		n := r.below(size - at + 1)
		pieces(t, size, object, at, n, gathered(row[at:at+n])...)
		pieces(t, size, object, at, size-at, gathered(row[at:])...)
		noPieces(t, size, object, at, size-at+1+r.below(20))
	}
}

// P12.2: by the pieces each byte is found in its place, and there alone

func TestPiecesAreTheBytes(t *testing.T) {
	r := dice(122)
	for range 2000 {
		object, size := objects()[r.below(5)], r.below(4097)
		at := r.below(size + 1)
		n := r.below(size - at + 1)
		l, err := stripe.Pieces(size, object, at, n)
		if err != nil {
			t.Fatal(size, object, at, n, err)
		}
		var bytes []int
		for _, p := range l {
			if p.Len < 1 || p.At < 0 || p.At+p.Len > object || p.From != len(bytes) {
				t.Fatalf("%d bytes from %d on, of %d in objects of %d: %v", n, at, size, object, p)
			}
			for i := range p.Len {
				bytes = append(bytes, p.Index*object+p.At+i)
			}
		}
		if len(bytes) != n {
			t.Fatalf("%d bytes from %d on, of %d in objects of %d: %d bytes", n, at, size, object, len(bytes))
		}
		for i, b := range bytes {
			if b != at+i {
				t.Fatalf("%d bytes from %d on, of %d in objects of %d: byte %d is %d", n, at, size, object, i, b)
			}
		}
	}
}

// P12.1: all objects, and all numbers beside them, of all images

func TestAllObjects(t *testing.T) {
	for _, object := range objects() {
		row := places(4096, object)
		noWhole(t, 0, object, 0)
		for size := 1; size <= 4096; size++ {
			last := row[size-1]
			whole(t, size, object, last.index, last.at+1)
			for index := range last.index {
				whole(t, size, object, index, object)
			}
			noWhole(t, size, object, last.index+1)
			noWhole(t, size, object, -1)
		}
	}
}

func TestObjectsAreTheImage(t *testing.T) {
	for _, object := range objects() {
		for size := range 4097 {
			index, sum := 0, 0
			for ; sum < size; index++ {
				n, err := stripe.Whole(size, object, index)
				if err != nil || n < 1 || n > object {
					t.Fatalf("object %d of %d bytes in objects of %d: %d, %v", index, size, object, n, err)
				}
				pieces(t, size, object, sum, n, stripe.Piece{Index: index, Len: n})
				sum += n
			}
			if sum != size {
				t.Errorf("%d bytes in objects of %d: %d in all", size, object, sum)
			}
			noWhole(t, size, object, index)
		}
	}
}

// P12.1: all short images cut to all sizes, and any ones to any

func TestAllShortCuts(t *testing.T) {
	for _, object := range []int{16, 32, 64} {
		for size := range 2*object + 7 {
			row := places(size, object)
			for to := range size + 1 {
				cut(t, size, object, to, cutOff(row, to))
			}
			noCut(t, size, object, -1)
			noCut(t, size, object, size+1)
		}
	}
}

func TestAnyCuts(t *testing.T) {
	r := dice(121)
	for range 2000 {
		object, size := objects()[r.below(5)], r.below(4097)
		row := places(size, object)
		to := r.below(size + 1)
		cut(t, size, object, to, cutOff(row, to))
		whole := to / object * object
		cut(t, size, object, whole, cutOff(row, whole))
	}
}
