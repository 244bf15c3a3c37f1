package journal_test

import (
	"bytes"
	"errors"
	"fmt"
	"math"
	"slices"
	"testing"

	"lamina/api"
	"lamina/box"
	"lamina/disk"
	"lamina/journal"
)

// num is a number's eight bytes, the lowest first.
func num(n int) []byte {
	b := make([]byte, 8)
	for i := range b {
		b[i] = byte(n >> (8 * i))
	}
	return b
}

// seal is a box's sector; there is such a box.
func seal(kind, gen, number int, data []byte) api.Sector {
	s, err := box.Seal(box.Box{Kind: kind, Gen: gen, Number: number, Data: data})
	if err != nil {
		panic(err)
	}
	return s
}

// put writes a sector, and makes it sure.
func put(t *testing.T, d *disk.Disk, i int, s api.Sector) {
	t.Helper()
	must(t, d.Write(i, s))
	must(t, d.Flush())
}

// with is a copy of a disk with one sector changed.
func with(t *testing.T, d *disk.Disk, i int, s api.Sector) *disk.Disk {
	t.Helper()
	c := d.Copy()
	put(t, c, i, s)
	return c
}

// P5.1: how the disk is laid out

// of is what a disk of so many sectors has behind these states, checkpointed one behind the other, and transactions behind the last one.
func of(sectors int, states, txs [][]byte) []api.Sector {
	disk := make([]api.Sector, sectors)
	c := (sectors - 2) / 3
	gen := 0
	for _, state := range states {
		gen++
		for k, part := range box.Parts(state) {
			disk[2+gen%2*c+k] = seal(2, gen, k, part)
		}
		disk[gen%2] = seal(1, gen, 0, num(len(state)))
	}
	place := 0
	for _, tx := range txs {
		count := 0
		for _, part := range box.Parts(tx) {
			disk[2+2*c+place] = seal(3, gen, place, part)
			place, count = place+1, count+1
		}
		disk[2+2*c+place] = seal(4, gen, place, num(count))
		place++
	}
	return disk
}

// stands tells of a disk whose sectors aren't these.
func stands(t *testing.T, what string, d *disk.Disk, asked []api.Sector) {
	t.Helper()
	for i, s := range asked {
		if d.Sure(i) != s {
			t.Errorf("%s, a disk of %d: sector %d is % x, not % x", what, len(asked), i, d.Sure(i), s)
		}
	}
}

func TestLayout(t *testing.T) {
	for _, n := range []int{8, 9, 10, 11, 12, 13, 14, 15, 16, 50, 4096} {
		most := (n - 2) / 3 * 106
		states := [][]byte{some(most, 1), some(150, 2), nil, some(most-1, 4), some(1, 5)}
		for count := range len(states) {
			d := newDisk(t, n)
			j := format(t, d, states[0])
			for _, state := range states[1 : count+1] {
				must(t, j.Checkpoint(state))
			}
			stands(t, "states", d, of(n, states[:count+1], nil))
			var rows [][]byte
			for _, size := range []int{1, 106, 107, 212, 300} {
				if journal.Need(size) <= j.Room() {
					rows = append(rows, some(size, size))
					must(t, j.Append(some(size, size)))
				}
			}
			stands(t, "transactions", d, of(n, states[:count+1], rows))
			shows(t, "Open", open(t, d), count+1, states[count], rows, j.Room())
		}
	}
}

// P5.1: in which order all is written

// steps is the sectors that wait ahead of each flush of a call, by their numbers.
func steps(t *testing.T, d *disk.Disk, do func(d *disk.Disk)) [][]int {
	t.Helper()
	var out [][]int
	var waiting []int
	for arm := 0; ; arm++ {
		c := d.Copy()
		must(t, c.Arm(arm))
		do(c)
		if c.Waiting() == 0 && len(waiting) > 0 || c.Waiting() == 0 && c.Down() && arm > 0 {
			out, waiting = append(out, waiting), nil
		}
		if !c.Down() {
			return out
		}
		if c.Waiting() > 0 {
			waiting = append(waiting, newest(t, c))
		}
	}
}

// newest is the number of the last sector that waits, of a disk without power.
func newest(t *testing.T, d *disk.Disk) int {
	t.Helper()
	c := d.Copy()
	keep := make([]bool, d.Waiting())
	keep[len(keep)-1] = true
	c.Crash(keep...)
	for i := range d.Len() {
		if c.Sure(i) != d.Sure(i) {
			return i
		}
	}
	return -1
}

func TestOrder(t *testing.T) {
	d := newDisk(t, 20) // areas of 6 from 2 and 8 on, the log from 14 on
	j := format(t, d, some(600, 1))
	must(t, j.Checkpoint(some(600, 2)))
	must(t, j.Append(some(100, 3)))
	for _, c := range []struct {
		name  string
		do    func(d *disk.Disk)
		asked [][]int
	}{
		{"Format", func(d *disk.Disk) { _, _ = journal.Format(d, some(250, 4)) }, [][]int{{0, 1}, {8, 9, 10}, {1}}},
		{"Format of none", func(d *disk.Disk) { _, _ = journal.Format(d, nil) }, [][]int{{0, 1}, nil, {1}}},
		{"Checkpoint", func(d *disk.Disk) { _ = open2(d).Checkpoint(some(250, 5)) }, [][]int{{8, 9, 10}, {1}}},
		{"Checkpoint of none", func(d *disk.Disk) { _ = open2(d).Checkpoint(nil) }, [][]int{nil, {1}}},
		{"Append", func(d *disk.Disk) { _ = open2(d).Append(some(250, 6)) }, [][]int{{16, 17, 18}, {19}}},
	} {
		if got := steps(t, d, c.do); !slices.EqualFunc(got, c.asked, slices.Equal) {
			t.Errorf("%s writes %v, not %v", c.name, got, c.asked)
		}
	}
}

// open2 is the journal of a disk that has one.
func open2(d *disk.Disk) *journal.Journal {
	j, err := journal.Open(d)
	if err != nil {
		panic(err)
	}
	return j
}

// P5.1: which tops are one

func TestTops(t *testing.T) {
	for _, gen := range []int{0, 1, 2, 3, 255, 256, 1<<62 - 1, 1 << 62} {
		d := newDisk(t, 8)
		put(t, d, gen%2, seal(1, gen, 0, num(0)))
		shows(t, "a top alone", open(t, d), gen, nil, nil, 2)
		corrupt(t, "a top in the other sector", with(t, newDisk(t, 8), 1-gen%2, seal(1, gen, 0, num(0))))
		for what, s := range map[string]api.Sector{
			"noughts":              {},
			"kind 2":               seal(2, gen, 0, num(0)),
			"kind 255":             seal(255, gen, 0, num(0)),
			"number 1":             seal(1, gen, 1, num(0)),
			"number 2^31 - 1":      seal(1, gen, 1<<31-1, num(0)),
			"no data":              seal(1, gen, 0, nil),
			"seven bytes":          seal(1, gen, 0, make([]byte, 7)),
			"nine bytes":           seal(1, gen, 0, make([]byte, 9)),
			"sixteen bytes":        seal(1, gen, 0, make([]byte, 16)),
			"-1 bytes":             seal(1, gen, 0, num(-1)),
			"the least number":     seal(1, gen, 0, num(math.MinInt)),
			"-106 bytes":           seal(1, gen, 0, num(-106)),
			"a sector that is cut": cut(seal(1, gen, 0, num(0))),
		} {
			corrupt(t, "a top that is "+what, with(t, d, gen%2, s))
		}
	}
}

// cut is a sector with one byte changed.
func cut(s api.Sector) api.Sector {
	s[127] ^= 1
	return s
}

func TestGreaterTop(t *testing.T) {
	for _, c := range [][2]int{{0, 1}, {2, 1}, {2, 3}, {1 << 62, 1}, {0, 1<<62 - 1}, {100, 255}, {256, 255}} {
		d := newDisk(t, 8)
		put(t, d, 0, seal(1, c[0], 0, num(1)))
		put(t, d, 1, seal(1, c[1], 0, num(1)))
		put(t, d, 2, seal(2, c[0], 0, []byte{1}))
		put(t, d, 4, seal(2, c[1], 0, []byte{2}))
		least, most := 0, 1
		if c[0] > c[1] {
			least, most = 1, 0
		}
		shows(t, "two tops", open(t, d), c[most], []byte{byte(most + 1)}, nil, 2)
		shows(t, "the lesser top", open(t, with(t, d, most, api.Sector{})), c[least], []byte{byte(least + 1)}, nil, 2)
		shows(t, "the greater top", open(t, with(t, d, least, cut(d.Sure(least)))), c[most], []byte{byte(most + 1)}, nil, 2)
		shows(t, "the greater top that is no number's", open(t, with(t, d, most, seal(1, c[most], 0, num(-1)))), c[least], []byte{byte(least + 1)}, nil, 2)
		// The greater one holds, though its state isn't there, and the lesser one's is.
		corrupt(t, "the greater state gone", with(t, d, 2+2*most, api.Sector{}))
		corrupt(t, "the greater state shorter", with(t, d, most, seal(1, c[most], 0, num(2))))
		corrupt(t, "the greater state too long", with(t, d, most, seal(1, c[most], 0, num(213))))
	}
}

// P5.1: which parts of a state are there

func TestStateParts(t *testing.T) {
	d := newDisk(t, 14) // areas of 4 from 2 and 6 on, the log from 10 on
	must(t, format(t, d, nil).Checkpoint(some(250, 1)))
	parts := box.Parts(some(250, 1))
	shows(t, "the state", open(t, d), 2, some(250, 1), nil, 4)
	for k, part := range parts {
		for what, s := range map[string]api.Sector{
			"noughts":            {},
			"cut":                cut(seal(2, 2, k, part)),
			"of kind 1":          seal(1, 2, k, part),
			"of kind 3":          seal(3, 2, k, part),
			"of generation 0":    seal(2, 0, k, part),
			"of generation 1":    seal(2, 1, k, part),
			"of generation 4":    seal(2, 4, k, part),
			"of the next number": seal(2, 2, k+1, part),
			"of number 2 on":     seal(2, 2, k+2, part),
			"of one byte fewer":  seal(2, 2, k, part[1:]),
			"of no bytes":        seal(2, 2, k, nil),
		} {
			corrupt(t, fmt.Sprintf("part %d %s", k, what), with(t, d, 2+k, s))
		}
		shows(t, "other bytes", open(t, with(t, d, 2+k, seal(2, 2, k, make([]byte, len(part))))), 2,
			slices.Concat(slices.Concat(parts[:k]...), make([]byte, len(part)), slices.Concat(parts[k+1:]...)), nil, 4)
	}
	corrupt(t, "a last part that is too long", with(t, d, 4, seal(2, 2, 2, some(39, 1))))
	corrupt(t, "a state of more bytes", with(t, d, 0, seal(1, 2, 0, num(251))))
	corrupt(t, "a state of fewer bytes", with(t, d, 0, seal(1, 2, 0, num(249))))
	corrupt(t, "a state of a part more", with(t, d, 0, seal(1, 2, 0, num(319))))
	// Parts that aren't cut as layer 4 cuts them, though they come to as many bytes.
	corrupt(t, "parts of other lengths", with(t, with(t, d, 3, seal(2, 2, 1, some(100, 1))), 4, seal(2, 2, 2, some(44, 1))))
	shows(t, "a state of no bytes", open(t, with(t, d, 0, seal(1, 2, 0, num(0)))), 2, nil, nil, 4)
	shows(t, "the first part alone", open(t, with(t, d, 0, seal(1, 2, 0, num(106)))), 2, parts[0], nil, 4)
	shows(t, "a part behind the last one", open(t, with(t, d, 5, seal(2, 2, 3, some(106, 1)))), 2, some(250, 1), nil, 4)
}

func TestStateTooGreat(t *testing.T) {
	d := newDisk(t, 14)
	format(t, d, some(4*106, 1))
	for k := range 4 { // the other area and the log have parts, too, that go on
		put(t, d, 10+k, seal(2, 1, 4+k, some(106, 1)))
		put(t, d, 2+k, seal(2, 1, 4+k, some(106, 1)))
	}
	shows(t, "a full area", open(t, d), 1, some(4*106, 1), nil, 4)
	for _, n := range []int{4*106 + 1, 5 * 106, 8 * 106, 1 << 31, 1 << 40, 1 << 62, math.MaxInt - 106, math.MaxInt - 105, math.MaxInt - 104, math.MaxInt} {
		corrupt(t, fmt.Sprintf("a state of %d bytes", n), with(t, d, 1, seal(1, 1, 0, num(n))))
	}
}

// P5.1: which transactions stand there

// logged is a disk of generation 2 whose log, from sector 18 on, of 8, has these sectors.
func logged(t *testing.T, sectors ...api.Sector) *disk.Disk {
	t.Helper()
	d := newDisk(t, 26)
	must(t, format(t, d, nil).Checkpoint([]byte("state")))
	for k, s := range sectors {
		put(t, d, 18+k, s)
	}
	return d
}

// part and end are a transaction's, in generation 2.
func part(place int, data string) api.Sector { return seal(3, 2, place, []byte(data)) }
func end(place, count int) api.Sector        { return seal(4, 2, place, num(count)) }

func TestTransactionsThatStand(t *testing.T) {
	none := api.Sector{}
	for _, c := range []struct {
		what  string
		log   []api.Sector
		asked []string
		room  int
	}{
		{"nothing", nil, nil, 8},
		{"one", []api.Sector{part(0, "a"), end(1, 1)}, []string{"a"}, 6},
		{"two", []api.Sector{part(0, "a"), end(1, 1), part(2, "b"), part(3, "c"), end(4, 2)}, []string{"a", "bc"}, 3},
		{"four", []api.Sector{part(0, "a"), end(1, 1), part(2, "b"), end(3, 1), part(4, "c"), end(5, 1), part(6, "d"), end(7, 1)}, []string{"a", "b", "c", "d"}, 0},
		{"one in the whole log", []api.Sector{part(0, "a"), part(1, "b"), part(2, "c"), part(3, "d"), part(4, "e"), part(5, "f"), part(6, "g"), end(7, 7)}, []string{"abcdefg"}, 0},
		{"parts of any bytes", []api.Sector{part(0, ""), part(1, "abc"), part(2, ""), part(3, "d"), end(4, 4)}, []string{"abcd"}, 3},
		{"no bytes", []api.Sector{part(0, ""), end(1, 1), part(2, ""), part(3, ""), end(4, 2)}, []string{"", ""}, 3},
		{"parts alone", []api.Sector{part(0, "a"), part(1, "b"), part(2, "c")}, nil, 8},
		{"parts without end", []api.Sector{part(0, "a"), part(1, "b"), part(2, "c"), part(3, "d"), part(4, "e"), part(5, "f"), part(6, "g"), part(7, "h")}, nil, 8},
		{"an end alone", []api.Sector{end(0, 0)}, nil, 8},
		{"an end alone that tells of one", []api.Sector{end(0, 1)}, nil, 8},
		{"an end alone that tells of fewer than none", []api.Sector{end(0, -1)}, nil, 8},
		{"ends alone behind one", []api.Sector{part(0, "a"), end(1, 1), end(2, 0), part(3, "b"), end(4, 1)}, []string{"a"}, 6},
		{"a gap ahead", []api.Sector{none, part(1, "a"), end(2, 1)}, nil, 8},
		{"a gap between", []api.Sector{part(0, "a"), end(1, 1), none, part(3, "b"), end(4, 1)}, []string{"a"}, 6},
		{"a gap within", []api.Sector{part(0, "a"), none, part(2, "b"), end(3, 3)}, nil, 8},
		{"a gap ahead of the end", []api.Sector{part(0, "a"), none, end(2, 1)}, nil, 8},
		{"an end of more", []api.Sector{part(0, "a"), end(1, 2), part(2, "b"), end(3, 1)}, nil, 8},
		{"an end of fewer", []api.Sector{part(0, "a"), part(1, "b"), end(2, 1)}, nil, 8},
		{"an end of none", []api.Sector{part(0, "a"), end(1, 0)}, nil, 8},
		{"an end of more than there is", []api.Sector{part(0, "a"), end(1, math.MaxInt)}, nil, 8},
		{"an end with the number of the transaction's place", []api.Sector{part(0, "a"), end(0, 1)}, nil, 8},
		{"an end with the next place's number", []api.Sector{part(0, "a"), end(2, 1)}, nil, 8},
		{"an end of another generation", []api.Sector{part(0, "a"), seal(4, 1, 1, num(1))}, nil, 8},
		{"an end of the next generation", []api.Sector{part(0, "a"), seal(4, 3, 1, num(1))}, nil, 8},
		{"an end of kind 5", []api.Sector{part(0, "a"), seal(5, 2, 1, num(1))}, nil, 8},
		{"an end of no number", []api.Sector{part(0, "a"), seal(4, 2, 1, nil)}, nil, 8},
		{"an end of seven bytes", []api.Sector{part(0, "a"), seal(4, 2, 1, num(1)[:7])}, nil, 8},
		{"an end of nine bytes", []api.Sector{part(0, "a"), seal(4, 2, 1, append(num(1), 0))}, nil, 8},
		{"an end that is cut", []api.Sector{part(0, "a"), cut(end(1, 1))}, nil, 8},
		{"a part of another generation", []api.Sector{seal(3, 1, 0, []byte("a")), end(1, 1)}, nil, 8},
		{"a second part of another generation", []api.Sector{part(0, "a"), seal(3, 0, 1, []byte("b")), end(2, 2)}, nil, 8},
		{"a part of kind 2", []api.Sector{seal(2, 2, 0, []byte("a")), end(1, 1)}, nil, 8},
		{"a part of kind 4", []api.Sector{seal(4, 2, 0, []byte("a")), end(1, 1)}, nil, 8},
		{"a part of the next place's number", []api.Sector{part(1, "a"), end(1, 1)}, nil, 8},
		{"parts numbered in their transaction", []api.Sector{part(0, "a"), end(1, 1), part(0, "b"), end(3, 1)}, []string{"a"}, 6},
		{"a part that is cut", []api.Sector{part(0, "a"), end(1, 1), cut(part(2, "b")), end(3, 1)}, []string{"a"}, 6},
		{"one that was cut behind one that stands", []api.Sector{part(0, "a"), end(1, 1), part(2, "b"), part(3, "c")}, []string{"a"}, 6},
	} {
		var asked [][]byte
		for _, tx := range c.asked {
			asked = append(asked, []byte(tx))
		}
		shows(t, c.what, open(t, logged(t, c.log...)), 2, []byte("state"), asked, c.room)
	}
}

// What an older or newer generation left in the log doesn't stand there.
func TestLogOfOtherGenerations(t *testing.T) {
	d := newDisk(t, 26)
	j := format(t, d, nil)
	must(t, j.Append([]byte("a")))
	must(t, j.Append([]byte("b")))
	must(t, j.Append([]byte("c")))
	must(t, j.Checkpoint(nil))
	shows(t, "the next generation", open(t, d), 2, nil, nil, 8)
	must(t, j.Append([]byte("d")))
	shows(t, "the next generation's first", open(t, d), 2, nil, [][]byte{[]byte("d")}, 6)
	shows(t, "the generation ahead", open(t, with(t, d, 0, api.Sector{})), 1, nil, nil, 8)
	must(t, j.Checkpoint(nil))
	shows(t, "back again", open(t, with(t, d, 1, api.Sector{})), 2, nil, [][]byte{[]byte("d")}, 6)
}

// An opened journal goes on behind what stands there, be its transactions' parts as they may.
func TestGoesOnBehind(t *testing.T) {
	d := logged(t, part(0, ""), part(1, "x"), end(2, 2), part(3, "left"), part(4, "over"))
	j := open(t, d)
	must(t, j.Append(some(107, 1)))
	shows(t, "gone on", j, 2, []byte("state"), [][]byte{[]byte("x"), some(107, 1)}, 2)
	shows(t, "opened", open(t, d), 2, []byte("state"), [][]byte{[]byte("x"), some(107, 1)}, 2)
	if d.Sure(21) != seal(3, 2, 3, some(107, 1)[:106]) || d.Sure(23) != end(5, 2) {
		t.Error("it stands at other places")
	}
}

// Writes that wait are read: a journal is opened of them, too.
func TestOpenReadsWhatWaits(t *testing.T) {
	d := newDisk(t, 8)
	must(t, d.Write(0, seal(1, 2, 0, num(1))))
	must(t, d.Write(2, seal(2, 2, 0, []byte{5})))
	must(t, d.Write(6, part(0, "a")))
	must(t, d.Write(7, end(1, 1)))
	shows(t, "what waits", open(t, d), 2, []byte{5}, [][]byte{[]byte("a")}, 0)
	if d.Waiting() != 4 {
		t.Error("Open flushes")
	}
	d.Crash()
	corrupt(t, "what is lost", d)
}

// No box is of a generation behind 2^62: there is no checkpoint behind it, and nothing is done.
func TestLastGeneration(t *testing.T) {
	d := newDisk(t, 8)
	put(t, d, 0, seal(1, 1<<62, 0, num(0)))
	j := open(t, d)
	must(t, j.Append([]byte("a")))
	steps := d.Steps()
	for range 2 {
		for _, state := range [][]byte{nil, []byte("state")} {
			if err := j.Checkpoint(state); !errors.Is(err, api.ErrRange) || d.Steps() != steps {
				t.Errorf("a checkpoint behind the last generation: %v, %d steps", err, d.Steps()-steps)
			}
		}
	}
	shows(t, "the last generation", j, 1<<62, nil, [][]byte{[]byte("a")}, 0)
	shows(t, "opened", open(t, d), 1<<62, nil, [][]byte{[]byte("a")}, 0)
	put(t, d, 0, api.Sector{})
	put(t, d, 1, seal(1, 1<<62-1, 0, num(0)))
	must(t, open(t, d).Checkpoint([]byte("state")))
	shows(t, "the last checkpoint", open(t, d), 1<<62, []byte("state"), [][]byte{[]byte("a")}, 0)
	if !bytes.Equal(open(t, d).State(), []byte("state")) {
		t.Error("the state is another one")
	}
}
