package journal_test

import (
	"bytes"
	"errors"
	"math"
	"slices"
	"testing"

	"lamina/api"
	"lamina/disk"
	"lamina/journal"
)

// want tells of an error that isn't the one that is asked for.
func want(t *testing.T, what string, got, asked error) {
	t.Helper()
	if got == nil && asked == nil {
		return
	}
	if got == nil || asked == nil || !errors.Is(got, asked) {
		t.Errorf("%s answers %v, not %v", what, got, asked)
	}
}

// must ends the test if there was an error.
func must(t *testing.T, err error) {
	t.Helper()
	if err != nil {
		t.Fatal(err)
	}
}

// some is n bytes that hang on seed, none of which is as the one beside it.
func some(n, seed int) []byte {
	b := make([]byte, n)
	for i := range b {
		b[i] = byte(seed*17 + i*3 + i/106)
	}
	return b
}

// newDisk is a disk, or the end of the test.
func newDisk(t *testing.T, sectors int) *disk.Disk {
	t.Helper()
	d, err := disk.New(sectors)
	must(t, err)
	return d
}

// format is the journal of a fresh disk, or the end of the test.
func format(t *testing.T, d *disk.Disk, state []byte) *journal.Journal {
	t.Helper()
	j, err := journal.Format(d, state)
	if err != nil || j == nil {
		t.Fatalf("Format: %v, %v", j, err)
	}
	return j
}

// open is the journal of a disk, or the end of the test.
func open(t *testing.T, d *disk.Disk) *journal.Journal {
	t.Helper()
	j, err := journal.Open(d)
	if err != nil || j == nil {
		t.Fatalf("Open: %v, %v", j, err)
	}
	return j
}

// txs is all transactions, whose numbers must rise from 0 on.
func txs(t *testing.T, j *journal.Journal) [][]byte {
	t.Helper()
	var out [][]byte
	for i, tx := range j.Txs() {
		if i != len(out) {
			t.Fatalf("transaction %d has the number %d", len(out), i)
		}
		out = append(out, tx)
	}
	return out
}

// shows tells of a journal that isn't of this generation, with this state, these transactions, and so much room.
func shows(t *testing.T, what string, j *journal.Journal, gen int, state []byte, asked [][]byte, room int) {
	t.Helper()
	if j.Gen() != gen || !bytes.Equal(j.State(), state) || j.Len() != len(asked) || j.Room() != room {
		t.Errorf("%s: generation %d, %d bytes, %d transactions, room %d; not %d, %d, %d, %d",
			what, j.Gen(), len(j.State()), j.Len(), j.Room(), gen, len(state), len(asked), room)
	}
	if !slices.EqualFunc(txs(t, j), asked, bytes.Equal) {
		t.Errorf("%s: the transactions are others", what)
	}
}

// logSize is how many sectors a disk's log has.
func logSize(sectors int) int { return sectors - 2 - (sectors-2)/3*2 }

// parts is how many parts so many bytes have, counted one by one.
func parts(n int) int {
	count := 0
	for at := 0; at < n; at += 106 {
		count++
	}
	return count
}

// P5.1: Need

func TestNeed(t *testing.T) {
	for n := range 1000 {
		asked := parts(n) + 1
		if n == 0 {
			asked = 0
		}
		if got := journal.Need(n); got != asked {
			t.Fatalf("Need(%d) is %d, not %d", n, got, asked)
		}
	}
	for n, asked := range map[int]int{106: 2, 107: 3, -1: 0, -106: 0, -107: 0, math.MinInt: 0, math.MinInt + 1: 0,
		math.MaxInt: math.MaxInt/106 + 2, math.MaxInt - 1: (math.MaxInt-1)/106 + 2, 1 << 40: (1<<40)/106 + 2} {
		if got := journal.Need(n); got != asked {
			t.Errorf("Need(%d) is %d, not %d", n, got, asked)
		}
	}
}

// P5.1: Format

func TestFormatRange(t *testing.T) {
	for n := 1; n < 8; n++ {
		for _, state := range [][]byte{nil, {1}, make([]byte, 10000)} {
			d := newDisk(t, n)
			for _, down := range []bool{false, true} {
				if down {
					cutPower(t, d)
				}
				j, err := journal.Format(d, state)
				want(t, "Format of a small disk", err, api.ErrRange)
				if j != nil || d.Steps() != 0 || d.Waiting() != 0 {
					t.Errorf("Format of a disk of %d: a journal, or steps", n)
				}
			}
		}
	}
	j, err := journal.Format(nil, nil)
	want(t, "Format of no disk", err, api.ErrRange)
	if j != nil {
		t.Error("Format of no disk has a journal")
	}
}

// cutPower lets the power of a disk go.
func cutPower(t *testing.T, d *disk.Disk) {
	t.Helper()
	must(t, d.Arm(0))
	if d.Flush() == nil || !d.Down() {
		t.Fatal("the power doesn't go")
	}
}

func TestFormatFull(t *testing.T) {
	for _, n := range []int{8, 9, 10, 11, 14, 50, 4096} {
		most := (n - 2) / 3 * 106
		for _, size := range []int{most + 1, most + 106, most + 107, 1 << 20} {
			d := newDisk(t, n)
			for _, down := range []bool{false, true} {
				if down {
					cutPower(t, d)
				}
				j, err := journal.Format(d, make([]byte, size))
				want(t, "Format of a great state", err, api.ErrFull)
				if j != nil || d.Steps() != 0 || d.Waiting() != 0 {
					t.Errorf("Format of %d bytes on %d sectors: a journal, or steps", size, n)
				}
			}
		}
		for _, size := range []int{0, 1, 106, 107, most - 106, most - 105, most - 1, most} {
			d := newDisk(t, n)
			j := format(t, d, some(size, n))
			shows(t, "Format", j, 1, some(size, n), nil, logSize(n))
			shows(t, "Open behind Format", open(t, d), 1, some(size, n), nil, logSize(n))
			if asked := 3 + parts(size) + 3; d.Steps() != asked || d.Waiting() != 0 {
				t.Errorf("Format of %d bytes does %d steps, not %d; %d wait", size, d.Steps(), asked, d.Waiting())
			}
		}
	}
}

func TestFormatDown(t *testing.T) {
	d := newDisk(t, 20)
	cutPower(t, d)
	j, err := journal.Format(d, []byte("state"))
	want(t, "Format without power", err, api.ErrDown)
	if j != nil {
		t.Error("Format without power has a journal")
	}
	for arm := range 7 {
		d := newDisk(t, 20)
		must(t, d.Arm(arm))
		j, err := journal.Format(d, []byte("state"))
		want(t, "Format that is cut", err, api.ErrDown)
		if j != nil || d.Steps() != arm {
			t.Errorf("Format that is cut at step %d: a journal, or %d steps", arm, d.Steps())
		}
	}
	must(t, d.Arm(7))
	d.Crash()
	format(t, d, []byte("state"))
}

// Format is of generation 1 whatever generation stood there before, in either top.
func TestFormatAgain(t *testing.T) {
	for gens := 1; gens < 6; gens++ {
		d := newDisk(t, 30)
		j := format(t, d, some(200, 1))
		for g := 2; g <= gens; g++ {
			must(t, j.Checkpoint(some(300, g)))
		}
		shows(t, "Format again", format(t, d, some(150, 9)), 1, some(150, 9), nil, 10)
		shows(t, "Open behind it", open(t, d), 1, some(150, 9), nil, 10)
		for i, asked := range []bool{false, true} {
			if (d.Sure(i) != api.Sector{}) != asked {
				t.Errorf("behind Format again the top in sector %d is there: %v", i, !asked)
			}
		}
	}
}

// A Format that is cut behind its first flush has left no top of before.
func TestFormatCutLeavesNoTop(t *testing.T) {
	for _, arm := range []int{3, 4, 5} {
		d := newDisk(t, 30)
		must(t, format(t, d, []byte("one")).Checkpoint([]byte("two")))
		must(t, d.Arm(arm))
		_, err := journal.Format(d, []byte("three"))
		want(t, "Format", err, api.ErrDown)
		d.Crash()
		corrupt(t, "cut behind the noughts", d)
	}
}

// P5.1: Open

// corrupt tells of a disk that is opened though there is no journal on it.
func corrupt(t *testing.T, what string, d *disk.Disk) {
	t.Helper()
	steps := d.Steps()
	j, err := journal.Open(d)
	want(t, "Open of "+what, err, api.ErrCorrupt)
	if j != nil || d.Steps() != steps {
		t.Errorf("Open of %s has a journal, or does steps", what)
	}
}

func TestOpenErrors(t *testing.T) {
	for n := 1; n < 8; n++ {
		d := newDisk(t, n)
		for _, down := range []bool{false, true} {
			if down {
				cutPower(t, d)
			}
			j, err := journal.Open(d)
			want(t, "Open of a small disk", err, api.ErrRange)
			if j != nil {
				t.Errorf("Open of a disk of %d has a journal", n)
			}
		}
	}
	if j, err := journal.Open(nil); j != nil || !errors.Is(err, api.ErrRange) {
		t.Errorf("Open of no disk: %v, %v", j, err)
	}
	for _, n := range []int{8, 9, 4096} {
		d := newDisk(t, n)
		corrupt(t, "noughts", d)
		cutPower(t, d)
		j, err := journal.Open(d)
		want(t, "Open without power", err, api.ErrDown)
		if j != nil {
			t.Error("Open without power has a journal")
		}
	}
	d := newDisk(t, 20)
	format(t, d, []byte("state"))
	cutPower(t, d)
	_, err := journal.Open(d)
	want(t, "Open of a journal without power", err, api.ErrDown)
	d.Crash()
	shows(t, "Open with power again", open(t, d), 1, []byte("state"), nil, 6)
}

func TestOpenWritesNothing(t *testing.T) {
	d := newDisk(t, 20)
	j := format(t, d, some(300, 1))
	must(t, j.Append(some(300, 2)))
	must(t, d.Arm(0))
	steps := d.Steps()
	for range 3 {
		shows(t, "Open", open(t, d), 1, some(300, 1), [][]byte{some(300, 2)}, 2)
	}
	if d.Steps() != steps || d.Waiting() != 0 || d.Down() {
		t.Error("Open does steps")
	}
}

// P5.1: Append and Checkpoint

func TestAppendFillsTheLog(t *testing.T) {
	for _, n := range []int{8, 9, 10, 11, 12, 13, 14, 50} {
		for size := 1; size < 330; size += 35 {
			d := newDisk(t, n)
			j := format(t, d, nil)
			var asked [][]byte
			room := logSize(n)
			for room >= parts(size)+1 {
				asked = append(asked, some(size, len(asked)))
				steps := d.Steps()
				must(t, j.Append(some(size, len(asked)-1)))
				if d.Steps() != steps+parts(size)+3 || d.Waiting() != 0 {
					t.Fatalf("Append of %d bytes does %d steps", size, d.Steps()-steps)
				}
				room -= parts(size) + 1
				shows(t, "Append", j, 1, nil, asked, room)
			}
			steps := d.Steps()
			want(t, "Append to a full log", j.Append(some(size, 0)), api.ErrFull)
			if d.Steps() != steps {
				t.Error("Append to a full log does steps")
			}
			shows(t, "behind Append to a full log", j, 1, nil, asked, room)
			shows(t, "Open", open(t, d), 1, nil, asked, room)
		}
	}
}

func TestAppendForm(t *testing.T) {
	d := newDisk(t, 8)
	j := format(t, d, nil)
	for _, room := range []int{2, 0} {
		for _, tx := range [][]byte{nil, {}} {
			steps := d.Steps()
			want(t, "Append of no bytes", j.Append(tx), api.ErrForm)
			if d.Steps() != steps || j.Room() != room {
				t.Error("Append of no bytes does something")
			}
		}
		if room > 0 {
			must(t, j.Append([]byte{0}))
		}
	}
	want(t, "Append", j.Append([]byte{1}), api.ErrFull)
	shows(t, "behind refused calls", open(t, d), 1, nil, [][]byte{{0}}, 0)
	must(t, j.Checkpoint(nil))
	must(t, j.Append([]byte{2}))
	shows(t, "behind a checkpoint", open(t, d), 2, nil, [][]byte{{2}}, 0)
}

func TestCheckpoint(t *testing.T) {
	for _, n := range []int{8, 9, 10, 11, 14, 50} {
		d := newDisk(t, n)
		j := format(t, d, nil)
		most := (n - 2) / 3 * 106
		gen := 1
		for _, size := range []int{0, 1, most, 105, 0, most - 1, 106, 107, most} {
			must(t, j.Append([]byte{byte(gen)}))
			state := j.State()
			steps := d.Steps()
			for _, more := range []int{most + 1, most + 106, 1 << 20} {
				want(t, "Checkpoint of a great state", j.Checkpoint(make([]byte, more)), api.ErrFull)
			}
			shows(t, "behind a refused checkpoint", j, gen, state, [][]byte{{byte(gen)}}, logSize(n)-2)
			if d.Steps() != steps {
				t.Error("a refused checkpoint does steps")
			}
			gen++
			must(t, j.Checkpoint(some(size, gen)))
			if d.Steps() != steps+parts(size)+3 || d.Waiting() != 0 {
				t.Errorf("Checkpoint of %d bytes does %d steps", size, d.Steps()-steps)
			}
			shows(t, "Checkpoint", j, gen, some(size, gen), nil, logSize(n))
			shows(t, "Open behind Checkpoint", open(t, d), gen, some(size, gen), nil, logSize(n))
		}
	}
}

func TestGreatDisk(t *testing.T) {
	d := newDisk(t, 4096)
	j := format(t, d, some(1364*106, 1))
	must(t, j.Append(some(1000*106, 2)))
	must(t, j.Append(some(364*106-5, 3)))
	shows(t, "a great disk", open(t, d), 1, some(1364*106, 1), [][]byte{some(1000*106, 2), some(364*106-5, 3)}, 0)
	must(t, j.Checkpoint(some(1364*106-1, 4)))
	must(t, j.Append(some(1365*106, 5)))
	shows(t, "a great transaction", open(t, d), 2, some(1364*106-1, 4), [][]byte{some(1365*106, 5)}, 0)
}

// P5.1: a journal that is stuck

func TestStuck(t *testing.T) {
	for name, do := range map[string]func(j *journal.Journal) error{
		"Append":     func(j *journal.Journal) error { return j.Append(some(200, 7)) },
		"Checkpoint": func(j *journal.Journal) error { return j.Checkpoint(some(200, 7)) },
	} {
		for arm := range 5 {
			d := newDisk(t, 20)
			j := format(t, d, some(150, 1))
			must(t, j.Append(some(150, 2)))
			must(t, d.Arm(arm))
			want(t, name, do(j), api.ErrDown)
			for _, down := range []bool{true, false} {
				if !down {
					d.Crash(true, true, true, true)
				}
				steps := d.Steps()
				for _, b := range [][]byte{nil, {1}, make([]byte, 10000)} {
					want(t, "Append when stuck", j.Append(b), api.ErrDown)
					want(t, "Checkpoint when stuck", j.Checkpoint(b), api.ErrDown)
				}
				if d.Steps() != steps || d.Waiting() > 0 && !down {
					t.Error("a journal that is stuck does steps")
				}
				shows(t, "stuck behind "+name, j, 1, some(150, 1), [][]byte{some(150, 2)}, 3)
			}
		}
	}
}

// The power goes only at a step: what is refused ahead of one doesn't make a journal stuck.
func TestRefusedIsNotStuck(t *testing.T) {
	d := newDisk(t, 8)
	j := format(t, d, nil)
	cutPower(t, d)
	want(t, "Append of no bytes", j.Append(nil), api.ErrForm)
	want(t, "Append of many", j.Append(make([]byte, 107)), api.ErrFull)
	want(t, "Checkpoint of many", j.Checkpoint(make([]byte, 213)), api.ErrFull)
	shows(t, "without power", j, 1, nil, nil, 2)
	d.Crash()
	must(t, j.Append([]byte("tx")))
	shows(t, "with power again", open(t, d), 1, nil, [][]byte{[]byte("tx")}, 0)
}

// P5.1: a nil Journal

func TestNilJournal(t *testing.T) {
	var j *journal.Journal
	for _, b := range [][]byte{nil, {1}, make([]byte, 1<<20)} {
		want(t, "Append to none", j.Append(b), api.ErrState)
		want(t, "Checkpoint of none", j.Checkpoint(b), api.ErrState)
	}
	if len(j.State()) != 0 || j.Len() != 0 || j.Gen() != 0 || j.Room() != 0 {
		t.Error("a nil journal has something")
	}
	for i, tx := range j.Txs() {
		t.Errorf("a nil journal has transaction %d: % x", i, tx)
	}
}

// P5.1: Txs

func TestTxsAreLeft(t *testing.T) {
	j := format(t, newDisk(t, 50), nil)
	for i := range 5 {
		must(t, j.Append([]byte{byte(i)}))
	}
	all := j.Txs()
	for stop := range 5 {
		seen := 0
		for i := range all {
			seen++
			if i == stop {
				break
			}
		}
		if seen != stop+1 {
			t.Errorf("left at %d, the iterator went over %d", stop, seen)
		}
	}
	for range 2 {
		if count := len(txs(t, j)); count != 5 {
			t.Errorf("gone over again, there are %d", count)
		}
	}
}

// An iterator is an answer: what is done later, within it too, doesn't change it.
func TestTxsStay(t *testing.T) {
	d := newDisk(t, 50)
	j := format(t, d, nil)
	must(t, j.Append([]byte("a")))
	must(t, j.Append([]byte("b")))
	before := j.Txs()
	for i, tx := range before {
		must(t, j.Append([]byte("more")))
		if i > 1 || string(tx) != []string{"a", "b"}[i] {
			t.Errorf("transaction %d is %q", i, tx)
		}
	}
	behind := j.Txs()
	must(t, j.Checkpoint(nil))
	must(t, j.Append([]byte("c")))
	var seen []string
	for _, tx := range before {
		seen = append(seen, string(tx))
	}
	for _, tx := range behind {
		seen = append(seen, string(tx))
	}
	if !slices.Equal(seen, []string{"a", "b", "a", "b", "more", "more"}) {
		t.Errorf("later the iterators go over %q", seen)
	}
	shows(t, "behind it all", open(t, d), 2, nil, [][]byte{[]byte("c")}, 14)
}

// P5.3

// spoil changes all bytes of a row, and what room it has behind them.
func spoil(b []byte) {
	b = b[:cap(b)]
	for i := range b {
		b[i] ^= 255
	}
}

// roomy is n bytes with spare room behind them, and the whole room.
func roomy(n, seed int) (short, room []byte) {
	room = some(n+50, seed)
	return room[:n], room
}

func TestHandedInStays(t *testing.T) {
	for _, n := range []int{1, 106, 107, 300} {
		state, stateRoom := roomy(n, 1)
		tx, txRoom := roomy(n, 2)
		next, nextRoom := roomy(n, 3)
		d := newDisk(t, 30)
		j := format(t, d, state)
		must(t, j.Append(tx))
		if !bytes.Equal(stateRoom, some(n+50, 1)) || !bytes.Equal(txRoom, some(n+50, 2)) {
			t.Fatal("what was handed in was changed")
		}
		spoil(state)
		spoil(tx)
		shows(t, "with what was handed in changed", j, 1, some(n+50, 1)[:n], [][]byte{some(n+50, 2)[:n]}, 10-journal.Need(n))
		must(t, j.Checkpoint(next))
		if !bytes.Equal(nextRoom, some(n+50, 3)) {
			t.Fatal("what was handed in was changed")
		}
		spoil(next)
		shows(t, "with the next state changed", j, 2, some(n+50, 3)[:n], nil, 10)
		shows(t, "opened", open(t, d), 2, some(n+50, 3)[:n], nil, 10)
	}
}

func TestAnswersAreNew(t *testing.T) {
	d := newDisk(t, 50)
	j := format(t, d, some(300, 1))
	must(t, j.Append(some(300, 2)))
	must(t, j.Append(some(50, 3)))
	for _, k := range []*journal.Journal{j, open(t, d)} {
		for range 3 {
			state, rows, again := k.State(), txs(t, k), txs(t, k)
			spoil(state)
			for _, tx := range rows {
				spoil(tx)
			}
			if !bytes.Equal(again[0], some(300, 2)) || !bytes.Equal(again[1], some(50, 3)) {
				t.Fatal("two answers share memory")
			}
			shows(t, "with its answers changed", k, 1, some(300, 1), [][]byte{some(300, 2), some(50, 3)}, 10)
		}
	}
	shows(t, "opened", open(t, d), 1, some(300, 1), [][]byte{some(300, 2), some(50, 3)}, 10)
}

// Two journals that were opened of one disk hold nothing in common.
func TestJournalsAreApart(t *testing.T) {
	d := newDisk(t, 50)
	j := format(t, d, []byte("state"))
	must(t, j.Append([]byte("a")))
	k := open(t, d)
	must(t, k.Append([]byte("b")))
	shows(t, "the first", j, 1, []byte("state"), [][]byte{[]byte("a")}, 14)
	shows(t, "the second", k, 1, []byte("state"), [][]byte{[]byte("a"), []byte("b")}, 12)
	must(t, k.Checkpoint(nil))
	shows(t, "the first, later", j, 1, []byte("state"), [][]byte{[]byte("a")}, 14)
}
