package stripe_test

import (
	"errors"
	"math"
	"slices"
	"testing"

	"lamina/api"
	"lamina/stripe"
)

// objects is how many bytes a data object may have.
func objects() []int { return []int{16, 32, 64, 128, 256} }

// noObjects is how many it may not have.
func noObjects() []int {
	return []int{
		0, 1, 2, 4, 8, 15, 17, 24, 31, 33, 48, 63, 65, 96, 100, 127, 129, 192, 255, 257, 384, 512, 1024, 4096,
		-1, -16, -32, -256, 1<<32 + 16, 1<<62 + 16, 1 << 62, math.MaxInt, math.MinInt, math.MinInt + 16,
	}
}

// noSizes is how many bytes an image may not have.
func noSizes() []int {
	return []int{-1, -2, -16, -4096, 4097, 4098, 4112, 8192, 1 << 16, 1 << 32, 1<<32 + 69, 1 << 62, math.MaxInt - 1, math.MaxInt, math.MinInt, math.MinInt + 1, math.MinInt + 69}
}

// extremes are numbers that, added or multiplied, wrap around.
func extremes() []int {
	var l []int
	for shift := 54; shift < 64; shift++ {
		for off := -2; off <= 2; off++ {
			l = append(l, 1<<shift+off, -1<<shift+off, 1<<shift-69+off, 1<<shift-4096+off)
		}
	}
	return append(l, math.MaxInt-4096, math.MaxInt-69, math.MinInt+69, math.MinInt+4096)
}

// pieces tells of pieces that aren't those that are asked for.
func pieces(t *testing.T, size, object, at, n int, asked ...stripe.Piece) {
	t.Helper()
	if l, err := stripe.Pieces(size, object, at, n); err != nil || !slices.Equal(l, asked) {
		t.Errorf("%d bytes from %d on, of %d in objects of %d: %v, %v; not %v", n, at, size, object, l, err, asked)
	}
}

func noPieces(t *testing.T, size, object, at, n int) {
	t.Helper()
	if l, err := stripe.Pieces(size, object, at, n); !errors.Is(err, api.ErrRange) || l != nil {
		t.Errorf("%d bytes from %d on, of %d in objects of %d: %v, %v", n, at, size, object, l, err)
	}
}

// whole tells of another count of bytes than that which is asked for.
func whole(t *testing.T, size, object, index, asked int) {
	t.Helper()
	if n, err := stripe.Whole(size, object, index); err != nil || n != asked {
		t.Errorf("object %d of %d bytes in objects of %d: %d, %v; not %d", index, size, object, n, err, asked)
	}
}

func noWhole(t *testing.T, size, object, index int) {
	t.Helper()
	if n, err := stripe.Whole(size, object, index); !errors.Is(err, api.ErrRange) || n != 0 {
		t.Errorf("object %d of %d bytes in objects of %d: %d, %v", index, size, object, n, err)
	}
}

// off is what Cut answers beside the error.
type off struct {
	edge        stripe.Piece
	first, last int
}

// cut tells of anything else that is cut off than what is asked for.
func cut(t *testing.T, size, object, to int, asked off) {
	t.Helper()
	if edge, first, last, err := stripe.Cut(size, object, to); err != nil || (off{edge, first, last}) != asked {
		t.Errorf("%d bytes in objects of %d cut to %d: %v, %d, %d, %v; not %v", size, object, to, edge, first, last, err, asked)
	}
}

func noCut(t *testing.T, size, object, to int) {
	t.Helper()
	if edge, first, last, err := stripe.Cut(size, object, to); !errors.Is(err, api.ErrRange) || (off{edge, first, last}) != (off{}) {
		t.Errorf("%d bytes in objects of %d cut to %d: %v, %d, %d, %v", size, object, to, edge, first, last, err)
	}
}

func piece(index, at, n, from int) stripe.Piece {
	return stripe.Piece{Index: index, At: at, Len: n, From: from}
}

// P12.1, P12.2: Pieces

func TestPieces(t *testing.T) {
	pieces(t, 40, 16, 10, 20, piece(0, 10, 6, 0), piece(1, 0, 14, 6)) // the chapter's example
	pieces(t, 40, 16, 0, 40, piece(0, 0, 16, 0), piece(1, 0, 16, 16), piece(2, 0, 8, 32))
	pieces(t, 40, 16, 0, 16, piece(0, 0, 16, 0))
	pieces(t, 40, 16, 0, 17, piece(0, 0, 16, 0), piece(1, 0, 1, 16))
	pieces(t, 40, 16, 16, 16, piece(1, 0, 16, 0))
	pieces(t, 40, 16, 15, 2, piece(0, 15, 1, 0), piece(1, 0, 1, 1))
	pieces(t, 40, 16, 15, 18, piece(0, 15, 1, 0), piece(1, 0, 16, 1), piece(2, 0, 1, 17))
	pieces(t, 40, 16, 17, 3, piece(1, 1, 3, 0))
	pieces(t, 40, 16, 39, 1, piece(2, 7, 1, 0))
	pieces(t, 40, 64, 10, 20, piece(0, 10, 20, 0))
	pieces(t, 1, 256, 0, 1, piece(0, 0, 1, 0))
	pieces(t, 4096, 256, 4095, 1, piece(15, 255, 1, 0))
	pieces(t, 4096, 16, 4079, 17, piece(254, 15, 1, 0), piece(255, 0, 16, 1))
	pieces(t, 4096, 128, 200, 300, piece(1, 72, 56, 0), piece(2, 0, 128, 56), piece(3, 0, 116, 184))
}

func TestPiecesOfNoBytes(t *testing.T) {
	for _, object := range objects() {
		for _, size := range []int{0, 1, 15, 16, 17, 69, 256, 4095, 4096} {
			for _, at := range []int{0, 1, 15, 16, size / 2, size - 1, size} {
				if at >= 0 && at <= size {
					pieces(t, size, object, at, 0)
				}
			}
			noPieces(t, size, object, size+1, 0)
			noPieces(t, size, object, -1, 0)
		}
	}
}

func TestPiecesOfABadRange(t *testing.T) {
	for _, object := range objects() {
		for _, size := range []int{0, 1, 16, 40, 69, 4096} {
			for _, x := range [][2]int{
				{0, size + 1}, {1, size}, {size, 1}, {size + 1, 0}, {size + 1, -1}, {size + 2, -2}, {size, -1}, {size, -size - 1}, {-1, 0}, {-1, 1}, {-1, 2}, {-1, size + 1}, {0, -1}, {1, -1}, {-1, -1}, {-size, size + 1}, {-16, 16}, {-16, 20},
			} {
				noPieces(t, size, object, x[0], x[1])
			}
			for _, x := range extremes() {
				for _, y := range []int{0, 1, -1, 16, 69, 4096, size - x, -x} {
					noPieces(t, size, object, x, y)
					noPieces(t, size, object, y, x)
				}
				for _, y := range extremes() {
					noPieces(t, size, object, x, y)
				}
			}
		}
	}
}

func TestPiecesOfNoImage(t *testing.T) {
	for _, size := range noSizes() {
		for _, object := range append(objects(), noObjects()...) {
			for _, x := range [][2]int{{0, 0}, {0, 1}, {10, 20}, {0, size}, {size, 0}, {1, size - 1}, {size, size}, {-1, 0}} {
				noPieces(t, size, object, x[0], x[1])
			}
		}
	}
	for _, object := range noObjects() {
		for _, size := range []int{0, 1, 16, 69, 4096} {
			for _, x := range [][2]int{{0, 0}, {0, 1}, {0, size}, {size, 0}, {1, 2}, {-1, 0}, {0, -1}} {
				noPieces(t, size, object, x[0], x[1])
			}
		}
	}
}

func TestPiecesAreNewMemory(t *testing.T) {
	l, err := stripe.Pieces(69, 16, 3, 60)
	if err != nil || len(l) != 4 {
		t.Fatal(l, err)
	}
	asked := slices.Clone(l)
	clear(l)
	pieces(t, 69, 16, 3, 60, asked...)
}

// P12.1: Whole

func TestWhole(t *testing.T) {
	for i, n := range []int{16, 16, 8} {
		whole(t, 40, 16, i, n)
	}
	whole(t, 48, 16, 2, 16)
	whole(t, 49, 16, 3, 1)
	whole(t, 1, 16, 0, 1)
	whole(t, 1, 256, 0, 1)
	whole(t, 255, 256, 0, 255)
	whole(t, 256, 256, 0, 256)
	whole(t, 257, 256, 0, 256)
	whole(t, 257, 256, 1, 1)
	whole(t, 4095, 64, 63, 63)
	whole(t, 4096, 64, 63, 64)
	whole(t, 4096, 16, 255, 16)
}

func TestWholeOfNoSuchObject(t *testing.T) {
	for _, object := range objects() {
		for _, size := range []int{0, 1, 16, 40, 69, 256, 4095, 4096} {
			count := (size + object - 1) / object
			for _, index := range append(extremes(), -1, -2, -count, -4096, count, count+1, count+16, size+1, 4096) {
				noWhole(t, size, object, index)
			}
		}
		noWhole(t, 0, object, 0)
	}
}

func TestWholeOfNoImage(t *testing.T) {
	for _, size := range noSizes() {
		for _, object := range append(objects(), noObjects()...) {
			for _, index := range []int{0, 1, -1, 256, size, math.MaxInt, math.MinInt} {
				noWhole(t, size, object, index)
			}
		}
	}
	for _, object := range noObjects() {
		for _, size := range []int{0, 1, 16, 69, 4096} {
			for _, index := range []int{0, 1, 2, -1, size, math.MaxInt, math.MinInt} {
				noWhole(t, size, object, index)
			}
		}
	}
}

// P12.1: Cut

func TestCut(t *testing.T) {
	cut(t, 40, 16, 40, off{first: 3, last: 3}) // nothing is cut off, though the last object isn't full
	cut(t, 40, 16, 39, off{edge: piece(2, 7, 1, 0), first: 3, last: 3})
	cut(t, 40, 16, 33, off{edge: piece(2, 1, 7, 0), first: 3, last: 3})
	cut(t, 40, 16, 32, off{first: 2, last: 3})
	cut(t, 40, 16, 31, off{edge: piece(1, 15, 1, 0), first: 2, last: 3})
	cut(t, 40, 16, 17, off{edge: piece(1, 1, 15, 0), first: 2, last: 3})
	cut(t, 40, 16, 16, off{first: 1, last: 3})
	cut(t, 40, 16, 5, off{edge: piece(0, 5, 11, 0), first: 1, last: 3})
	cut(t, 40, 16, 0, off{first: 0, last: 3})
	cut(t, 32, 16, 32, off{first: 2, last: 2})
	cut(t, 32, 16, 31, off{edge: piece(1, 15, 1, 0), first: 2, last: 2})
	cut(t, 0, 16, 0, off{})
	cut(t, 1, 16, 0, off{first: 0, last: 1})
	cut(t, 1, 16, 1, off{first: 1, last: 1})
	cut(t, 4096, 256, 4095, off{edge: piece(15, 255, 1, 0), first: 16, last: 16})
	cut(t, 4096, 16, 1, off{edge: piece(0, 1, 15, 0), first: 1, last: 256})
	cut(t, 4096, 16, 0, off{first: 0, last: 256})
	cut(t, 4096, 16, 4096, off{first: 256, last: 256})
}

func TestCutToWhatIsNoSize(t *testing.T) {
	for _, object := range objects() {
		for _, size := range []int{0, 1, 16, 40, 69, 256, 4095, 4096} {
			for _, to := range append(extremes(), -1, -2, -16, -size-1, -4096, size+1, size+2, size+16, 4097) {
				noCut(t, size, object, to)
			}
		}
	}
}

func TestCutOfNoImage(t *testing.T) {
	for _, size := range noSizes() {
		for _, object := range append(objects(), noObjects()...) {
			for _, to := range []int{0, 1, -1, 16, 69, size - 1, size, size + 1, math.MaxInt, math.MinInt} {
				noCut(t, size, object, to)
			}
		}
	}
	for _, object := range noObjects() {
		for _, size := range []int{0, 1, 16, 69, 4096} {
			for _, to := range []int{0, 1, -1, size - 1, size, size + 1, math.MaxInt, math.MinInt} {
				noCut(t, size, object, to)
			}
		}
	}
}
