package data_test

import (
	"fmt"
	"math"
	"slices"
	"testing"

	"lamina/api"
	"lamina/data"
	"lamina/pool"
)

// flags is a row of bools: x is true.
func flags(row []bool) string {
	s := ""
	for _, b := range row {
		s += map[bool]string{true: "x", false: "-"}[b]
	}
	return s
}

// scans holds an answer of Scan against what it must be.
func scans(t *testing.T, what string, there, clean []bool, err error, asked, also string) {
	t.Helper()
	if err != nil || flags(there) != asked || flags(clean) != also {
		t.Errorf("%s: %s, %s, %v; not %s, %s", what, flags(there), flags(clean), err, asked, also)
	}
}

// P14.1: Scan

func TestScan(t *testing.T) {
	p, d := roomy(t)
	for i, text := range []string{
		0: text(object("head", 0)),
		1: text(object("head", 2)),
		2: text(object("head", 5, clone("a", 1, 2), clone("b", 4))),
		3: text(absent(5, clone("a", 1, 2), clone("b", 4, 5))),
		4: "", // there is none
		5: text(object("same", 3, clone("same", 2), clone("same", 3))),
		6: text(absent(3)),
		7: text(object("", 3, clone("", 1, 3))),
	} {
		if i != 4 {
			lay(t, p, data.Name(7, i), text)
		}
	}
	done := d.Steps()
	for _, row := range []struct {
		s, before    int
		there, clean string
	}{
		{0, 0, "xxx--x-x", "--------"}, {1, 0, "x-xx---x", "--------"}, {6, 0, "xxx--x-x", "--------"},
		{0, 1, "xxx--x-x", "x-------"}, {0, 2, "xxx--x-x", "x-------"}, {0, 3, "xxx--x-x", "xx------"}, {0, 4, "xxx--x-x", "xx---x-x"}, {0, 5, "xxx--x-x", "xx---x-x"}, {0, 6, "xxx--x-x", "xxx--x-x"},
		{0, math.MaxInt, "xxx--x-x", "xxx--x-x"}, {math.MaxInt, 6, "xxx--x-x", "xxx--x-x"}, {7, 6, "xxx--x-x", "xxx--x-x"}, {7, 5, "xxx--x-x", "xx---x-x"},
		{1, 2, "x-xx---x", "x-xx----"}, {2, 1, "x-xx-x--", "x-xx----"}, {2, 2, "x-xx-x--", "x-xx-x--"}, {3, 2, "xx---x-x", "x-------"}, {3, 1, "xx---x-x", "x------x"}, {4, 2, "xxxx-x-x", "x-------"},
		{4, 3, "xxxx-x-x", "xx------"}, {5, 4, "xx-x-x-x", "xx-x-x-x"}, {4, 5, "xxxx-x-x", "xx-x-x-x"}, {4, 4, "xxxx-x-x", "xxxx-x-x"}, {5, 5, "xx-x-x-x", "xx-x-x-x"}, {6, 5, "xxx--x-x", "xx---x-x"}, {5, 6, "xx-x-x-x", "xx---x-x"},
		{0, -1, "xxx--x-x", "--------"}, {-1, 0, "--------", "--------"}, {-1, -1, "--------", "--------"}, {-1, 6, "--------", "--------"}, {6, -1, "xxx--x-x", "--------"}, {math.MinInt, math.MinInt, "--------", "--------"}, {2, math.MinInt, "x-xx-x--", "--------"},
	} {
		for _, objects := range []int{8, 1, 2, 7, 9, 300} {
			there, clean, err := data.Scan(p, 7, objects, row.s, row.before)
			n := min(objects, 8)
			more := flags(make([]bool, objects-n))
			scans(t, fmt.Sprintf("%d objects at %d, before %d", objects, row.s, row.before), there, clean, err, row.there[:n]+more, row.clean[:n]+more)
		}
	}
	there, clean, err := data.Scan(p, 8, 4, 0, 6)
	scans(t, "another image", there, clean, err, "----", "----")
	if d.Steps() != done {
		t.Error("Scan does something with the disk")
	}
}

func TestScanNames(t *testing.T) {
	p, _ := roomy(t)
	for _, name := range []string{"d.7.01", "d.7.+1", "d.7.1.", "d.7.", "d.7.x", "d.7.1x", "d.07.1", "d.77.1", "d.7", "d.7.0.1", "e.7.1", "d.7.-0", "d.7.0x1", "d.7.1_0", "d.7.99999999999999999999", "d.7.-1", "d.7.12"} {
		lay(t, p, name, "spoilt, if it were looked at")
	}
	for i := range 12 {
		if i%3 == 2 {
			lay(t, p, data.Name(7, i), text(object("here", 0)))
		}
	}
	there, clean, err := data.Scan(p, 7, 12, 0, 3)
	scans(t, "among other names", there, clean, err, "--x--x--x--x", "--x--x--x--x")
	lay(t, p, "d.-7.1", text(object("here", 0)))
	there, clean, err = data.Scan(p, -7, 3, 1, 0)
	scans(t, "a number below 0", there, clean, err, "-x-", "---")
	there, clean, err = data.Scan(p, math.MinInt, 3, 1, 0)
	scans(t, "the least number", there, clean, err, "---", "---")
}

func TestScanErrors(t *testing.T) {
	p, _ := roomy(t)
	lay(t, p, "d.7.0", text(object("here", 0)))
	lay(t, p, "d.7.2", "spoilt")
	lay(t, p, "d.7.300", "spoilt")
	lay(t, p, "d.8.2147483647", "spoilt")
	there, clean, err := data.Scan(p, 7, 2, 0, 1)
	scans(t, "ahead of the spoilt one", there, clean, err, "x-", "x-")
	for _, ask := range []struct {
		p           *pool.Pool
		id, objects int
		asked       error
	}{
		{p, 7, 3, api.ErrCorrupt}, {p, 7, 4, api.ErrCorrupt}, {p, 7, 400, api.ErrCorrupt}, {p, 7, math.MaxInt, api.ErrCorrupt}, {p, 8, 1 << 31, api.ErrCorrupt}, {p, 8, math.MaxInt, api.ErrCorrupt},
		{p, 8, 300, nil}, {p, 7, 0, nil}, {p, 7, -1, nil}, {p, 7, math.MinInt, nil},
		{nil, 7, 1, api.ErrState}, {nil, 7, 300, api.ErrState}, {nil, 7, math.MaxInt, api.ErrState}, {nil, 7, 0, nil}, {nil, 7, -5, nil}, {nil, math.MinInt, math.MinInt, nil},
	} {
		for _, s := range []int{0, 1, -1, math.MaxInt} {
			for _, before := range []int{0, 2, -1} {
				there, clean, err := data.Scan(ask.p, ask.id, ask.objects, s, before)
				n := 0
				if ask.asked == nil {
					n = max(0, ask.objects)
				}
				if want(t, fmt.Sprint(ask.objects, " objects"), err, ask.asked); len(there) != n || len(clean) != n || slices.Contains(there, true) || slices.Contains(clean, true) {
					t.Errorf("%d objects: %d, %d", ask.objects, len(there), len(clean))
				}
			}
		}
	}
}
