package journal_test

import (
	"bytes"
	"fmt"
	"slices"
	"testing"

	"lamina/disk"
	"lamina/journal"
)

// holding is what a journal holds.
type holding struct {
	gen   int
	state []byte
	txs   [][]byte
}

// held is what a journal holds.
func held(t *testing.T, j *journal.Journal) holding {
	t.Helper()
	return holding{j.Gen(), j.State(), txs(t, j)}
}

func (h holding) same(other holding) bool {
	return h.gen == other.gen && bytes.Equal(h.state, other.state) && slices.EqualFunc(h.txs, other.txs, bytes.Equal)
}

// room is how much room is left beside it in the log of a disk of so many sectors.
func (h holding) room(sectors int) int {
	room := logSize(sectors)
	for _, tx := range h.txs {
		room -= journal.Need(len(tx))
	}
	return room
}

// call is a call that makes one holding of another one.
type call struct {
	tx   bool // an Append; else a Checkpoint
	data []byte
}

func (c call) do(j *journal.Journal) error {
	if c.tx {
		return j.Append(c.data)
	}
	return j.Checkpoint(c.data)
}

// makes is what it makes of a holding.
func (c call) makes(h holding) holding {
	if c.tx {
		return holding{h.gen, h.state, append(slices.Clone(h.txs), c.data)}
	}
	return holding{h.gen + 1, c.data, nil}
}

// keeps goes over all choices of so many writes.
func keeps(waiting int) [][]bool {
	var out [][]bool
	for mask := range 1 << waiting {
		keep := make([]bool, waiting)
		for n := range keep {
			keep[n] = mask>>n&1 == 1
		}
		out = append(out, keep)
	}
	return out
}

// calls is calls with all that may stand behind each other: long and short ones, with others' leftovers beneath them.
func calls() []call {
	return []call{
		{true, some(1, 1)}, {true, some(300, 2)}, {true, some(106, 3)},
		{false, some(400, 4)}, {true, some(400, 5)}, {false, nil}, {true, some(107, 6)}, {true, some(2, 7)},
		{false, some(106, 8)}, {false, some(530, 9)}, {true, some(212, 10)},
	}
}

// opened is what is held by the journal that is opened behind a crash, and once more, or the end of the test.
func opened(t *testing.T, what string, d *disk.Disk) holding {
	t.Helper()
	steps := d.Steps()
	j, err := journal.Open(d)
	if err != nil {
		t.Fatalf("%s: %v", what, err)
	}
	h := held(t, j)
	if !held(t, open(t, d)).same(h) || d.Steps() != steps {
		t.Fatalf("%s: opened once more, it is another one", what)
	}
	if j.Room() != h.room(d.Len()) {
		t.Fatalf("%s: the room is %d", what, j.Room())
	}
	return h
}

// P5.2: each call is cut at each step, with any writes kept.
func TestEachCallIsCut(t *testing.T) {
	d := newDisk(t, 26) // areas and log of 8
	j := format(t, d, some(250, 0))
	before := held(t, j)
	for i, c := range calls() {
		behind := c.makes(before)
		total := journal.Need(len(c.data)) + 2
		if !c.tx {
			total = parts(len(c.data)) + 3
		}
		for arm := range total {
			cutDisk := d.Copy()
			k := open(t, cutDisk)
			must(t, cutDisk.Arm(arm))
			if c.do(k) == nil {
				t.Fatalf("call %d is done in %d steps", i, arm)
			}
			if !held(t, k).same(before) {
				t.Fatalf("call %d, cut at step %d: the journal holds something else", i, arm)
			}
			olds, news := 0, 0
			for _, keep := range keeps(cutDisk.Waiting()) {
				crashed := cutDisk.Copy()
				crashed.Crash(keep...)
				switch h := opened(t, fmt.Sprintf("call %d, cut at step %d, keeping %v", i, arm, keep), crashed); {
				case h.same(before):
					olds++
				case h.same(behind):
					news++
				default:
					t.Fatalf("call %d, cut at step %d, keeping %v: generation %d, %d bytes, %d transactions", i, arm, keep, h.gen, len(h.state), len(h.txs))
				}
			}
			// At the last step the last write waits: it alone tells.
			if last := arm == total-1; (news > 0) != last || olds == 0 {
				t.Fatalf("call %d, cut at step %d: %d are old, %d new", i, arm, olds, news)
			}
		}
		must(t, c.do(j))
		before = held(t, j)
		if !before.same(behind) {
			t.Fatalf("call %d makes another holding", i)
		}
		d.Crash()
		if !opened(t, "behind a call that is done", d).same(before) {
			t.Fatalf("call %d is answered, and lost", i)
		}
	}
}

// P5.2: a crash behind each call that is cut, and the next call upon what the cut one left.
func TestCutUponCut(t *testing.T) {
	for _, first := range calls() {
		for arm := range 8 {
			d := newDisk(t, 26)
			j := format(t, d, some(250, 0))
			must(t, j.Append(some(50, 1)))
			was := held(t, j)
			must(t, d.Arm(arm))
			if first.do(j) == nil {
				continue
			}
			for _, keep := range keeps(d.Waiting()) {
				crashed := d.Copy()
				crashed.Crash(keep...)
				h := opened(t, "behind the first cut", crashed)
				if !h.same(was) && !h.same(first.makes(was)) {
					t.Fatalf("cut at step %d, keeping %v, it is another one", arm, keep)
				}
				for _, second := range []call{{true, some(1, 20)}, {true, some(150, 21)}, {false, some(1, 22)}, {false, some(300, 23)}} {
					cutAgain(t, crashed, h, second)
				}
			}
		}
	}
}

// cutAgain cuts a call at each step, on copies of a disk with this holding; at last it is done.
func cutAgain(t *testing.T, d *disk.Disk, was holding, c call) {
	t.Helper()
	if c.tx && was.room(d.Len()) < journal.Need(len(c.data)) {
		return
	}
	for arm := 0; ; arm++ {
		again := d.Copy()
		k := open(t, again)
		must(t, again.Arm(arm))
		err := c.do(k)
		if err == nil {
			again.Crash()
			if !opened(t, "behind the second call", again).same(c.makes(was)) {
				t.Fatal("what is done upon a cut call's leftovers is another thing")
			}
			return
		}
		for _, all := range []bool{false, true} {
			crashed := again.Copy()
			crashed.Crash(slices.Repeat([]bool{all}, again.Waiting())...)
			if h := opened(t, "behind the second cut", crashed); !h.same(was) && !h.same(c.makes(was)) {
				t.Fatalf("cut again at step %d, all kept: %v: it is another one", arm, all)
			}
		}
	}
}

// P5.2: a long row of calls, of which many are cut, each upon what all the others left.
func TestManyCrashes(t *testing.T) {
	for seed := range 200 {
		r := dice(seed)
		n := 8 + r.below(30)
		d := newDisk(t, n)
		j := format(t, d, nil)
		was := held(t, j)
		cuts := 0
		for range 80 {
			c := call{r.below(3) > 0, r.bytes(r.below(400))}
			fits := parts(len(c.data)) <= (n-2)/3
			if c.tx {
				fits = len(c.data) > 0 && journal.Need(len(c.data)) <= was.room(n)
			}
			if !fits {
				continue
			}
			if r.below(2) == 0 {
				must(t, d.Arm(r.below(9)))
			}
			err := c.do(j)
			if err == nil {
				was = c.makes(was)
				if r.below(4) > 0 {
					continue
				}
			}
			d.Crash(r.keep(d.Waiting())...)
			h := opened(t, "behind a crash", d)
			if !h.same(was) && (err == nil || !h.same(c.makes(was))) {
				t.Fatalf("row %d: behind a crash it is another one", seed)
			}
			cuts++
			was, j = h, open(t, d)
		}
		if cuts == 0 {
			t.Errorf("row %d has no crash", seed)
		}
	}
}

// P5.2: a first Format that is cut has made nothing that can be opened, or all of it.
func TestFormatIsCut(t *testing.T) {
	asked := holding{1, some(250, 1), nil}
	for arm := range 9 {
		d := newDisk(t, 26)
		must(t, d.Arm(arm))
		if j, err := journal.Format(d, some(250, 1)); err == nil || j != nil {
			t.Fatalf("Format is done in %d steps", arm)
		}
		for _, keep := range keeps(d.Waiting()) {
			crashed := d.Copy()
			crashed.Crash(keep...)
			if arm == 8 && keep[0] {
				if !opened(t, "Format whose top is kept", crashed).same(asked) {
					t.Error("Format whose top is kept is another one")
				}
				continue
			}
			corrupt(t, fmt.Sprintf("Format cut at step %d, keeping %v", arm, keep), crashed)
		}
	}
}
