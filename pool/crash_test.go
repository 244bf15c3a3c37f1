package pool_test

import (
	"errors"
	"fmt"
	"testing"

	"lamina/api"
	"lamina/disk"
	"lamina/pool"
)

// keeps goes over all choices of so many writes; of more than eight, over some that hang on the choice's number.
func keeps(waiting int) [][]bool {
	var out [][]bool
	for mask := range 1 << min(waiting, 8) {
		keep := make([]bool, waiting)
		for n := range keep {
			keep[n] = mask>>(n%8)&1 == 1
		}
		out = append(out, keep)
	}
	return out
}

// stored is the text of a pool's store.
func stored(p *pool.Pool) string { return string(p.Store().Put()) }

// makes is the text that the call makes of the store of a pool, which is left as it is.
func (c call) makes(t *testing.T, p *pool.Pool) string {
	t.Helper()
	s := p.Store()
	_, err := c.with(s)
	must(t, err)
	return string(s.Put())
}

// survived is the text of the store of the pool that is opened behind a crash, and once more.
func survived(t *testing.T, what string, d *disk.Disk) string {
	t.Helper()
	done := d.Steps()
	p, err := pool.Open(d)
	if err != nil || p.Stuck() {
		t.Fatalf("%s: %v", what, err)
	}
	if q := open(t, d); looks(q) != looks(p) || d.Steps() != done || d.Waiting() != 0 {
		t.Fatalf("%s: opened once more, it is another one", what)
	}
	return stored(p)
}

// calls is calls that fill a log of ten sectors, checkpoint it, and leave leftovers of all lengths beneath each other.
func calls() []call {
	do := func(name string, list ...api.Step) call { return call{name: name, steps: list} }
	return []call{
		do("a", create(), write(0, x(100)), setAttr("k", "v")),
		do("b", create(), write(30, "abc")),
		{block: true, client: 3},
		do("a", write(10, "abc"), read(0, 20)),
		do("c", create(), write(0, x(300))),
		do("b", drop()),
		{block: true, client: 0},
		do("b", create(), allowed(1), setAttr("k", x(200))),
		do("c", api.Step{Kind: api.Cut, At: 5}),
		do("a", api.Step{Kind: api.Zero, At: 3, Len: 90}, getAttr("k")),
		do("a", api.Step{Kind: api.DropAttr, Name: "k"}, write(100, x(100))),
		{block: true, client: 7},
		do("c", write(5, x(400))),
		do("b", write(0, "b")),
		do("a", drop(), create(), write(0, "anew")),
	}
}

// P8.2: each call is cut at each step, with any writes kept.
func TestEachCallIsCut(t *testing.T) {
	d := newDisk(t, 32) // areas and log of 10
	p := format(t, d, 100)
	for i, c := range calls() {
		before, behind := stored(p), c.makes(t, p)
		if before == behind {
			t.Fatalf("call %d makes nothing else", i)
		}
		news := 0
		for arm := 0; ; arm++ {
			cut := d.Copy()
			q := open(t, cut)
			must(t, cut.Arm(arm))
			_, err := c.asks(q)
			if err == nil {
				break
			}
			if !errors.Is(err, api.ErrDown) || !q.Stuck() || stored(q) != before {
				t.Fatalf("call %d, cut at step %d, answers %v, or the pool is another one", i, arm, err)
			}
			olds := 0
			for _, keep := range keeps(cut.Waiting()) {
				crashed := cut.Copy()
				crashed.Crash(keep...)
				switch survived(t, fmt.Sprintf("call %d, cut at step %d, keeping %v", i, arm, keep), crashed) {
				case before:
					olds++
				case behind:
					news++
				default:
					t.Fatalf("call %d, cut at step %d, keeping %v: it is another one", i, arm, keep)
				}
			}
			if olds == 0 {
				t.Fatalf("call %d, cut at step %d, is always done", i, arm)
			}
		}
		if news == 0 {
			t.Errorf("call %d, cut, is never done", i)
		}
		_, err := c.asks(p)
		must(t, err)
		d.Crash()
		if survived(t, "behind a call that is done", d) != behind || stored(p) != behind {
			t.Fatalf("call %d is answered, and lost", i)
		}
	}
	if p.Gen() < 4 {
		t.Errorf("the generation is %d: what is checkpointed is too little", p.Gen())
	}
}

// P8.2: a call that is cut, and the next one upon what it left.
func TestCutUponCut(t *testing.T) {
	d := newDisk(t, 32)
	p := format(t, d, 100)
	list := calls()
	for i, first := range list[:len(list)-1] {
		before, behind := stored(p), first.makes(t, p)
		for arm := 0; ; arm++ {
			cut := d.Copy()
			must(t, cut.Arm(arm))
			if _, err := first.asks(open(t, cut)); err == nil {
				break
			}
			for _, all := range []bool{false, true} {
				crashed := cut.Copy()
				keep := make([]bool, cut.Waiting())
				for n := range keep {
					keep[n] = all || n%2 == arm%2
				}
				crashed.Crash(keep...)
				if text := survived(t, "the first cut", crashed); text != before && text != behind {
					t.Fatalf("call %d, cut at step %d: it is another one", i, arm)
				}
				for _, second := range []call{first, {name: "z", steps: steps(create(), write(0, x(250)))}, {block: true, client: 5}} {
					cutAgain(t, crashed, second)
				}
			}
		}
		_, err := first.asks(p)
		must(t, err)
	}
}

// cutAgain cuts a call at each step on copies of a disk; at last it is done. A call that can't be done again isn't.
func cutAgain(t *testing.T, d *disk.Disk, c call) {
	t.Helper()
	p := open(t, d)
	if _, err := c.with(p.Store()); err != nil {
		return
	}
	before, behind := stored(p), c.makes(t, p)
	for arm := 0; ; arm++ {
		again := d.Copy()
		q := open(t, again)
		must(t, again.Arm(arm))
		_, err := c.asks(q)
		if err == nil {
			again.Crash()
			if survived(t, "behind the second call", again) != behind {
				t.Fatal("what is done upon a cut call's leftovers is another thing")
			}
			return
		}
		want(t, "the second call", err, api.ErrDown)
		for _, all := range []bool{false, true} {
			crashed := again.Copy()
			keep := make([]bool, again.Waiting())
			for n := range keep {
				keep[n] = all
			}
			crashed.Crash(keep...)
			if text := survived(t, "the second cut", crashed); text != before && text != behind {
				t.Fatalf("cut again at step %d, all kept: %v: it is another one", arm, all)
			}
		}
	}
}

// P8.2: long rows of any calls, of which many are cut, each upon what all the others left.
func TestManyCrashes(t *testing.T) {
	olds, news, full := 0, 0, 0
	for seed := range 300 {
		r := dice(seed)
		d := newDisk(t, one(&r, 20, 30, 60, 100))
		p := format(t, d, one(&r, 20, 300))
		was := stored(p)
		for range 60 {
			c := r.call()
			s := p.Store()
			_, asked := c.with(s)
			if r.below(3) == 0 {
				must(t, d.Arm(r.below(12)))
			}
			_, err := c.asks(p)
			next := was
			switch {
			case err == nil:
				was, next = string(s.Put()), string(s.Put())
			case errors.Is(err, api.ErrDown):
				next = string(s.Put())
			case asked == nil: // there is no room for it on the disk
				full++
			}
			if err != nil && !errors.Is(err, api.ErrDown) && asked != nil && !errors.Is(err, asked) {
				t.Fatalf("row %d: %v, not %v", seed, err, asked)
			}
			if err == nil && r.below(5) > 0 || !errors.Is(err, api.ErrDown) && r.below(5) > 0 {
				continue
			}
			d.Crash(r.keep(d.Waiting())...)
			text := survived(t, "behind a crash", d)
			if text != was && text != next {
				t.Fatalf("row %d: behind a crash it is another one", seed)
			}
			if was != next && text == was {
				olds++
			} else if was != next {
				news++
			}
			was, p = text, open(t, d)
		}
	}
	if olds < 100 || news < 50 || full < 100 {
		t.Errorf("%d of the cut calls are undone, %d done; %d are full", olds, news, full)
	}
}

// P8.2: a Format that is cut has made nothing that can be opened, or all of it.
func TestFormatIsCut(t *testing.T) {
	asked := newText(t, 50)
	for arm := range 8 {
		d := newDisk(t, 26)
		must(t, d.Arm(arm))
		if p, err := pool.Format(d, 50); err == nil {
			if arm != 7 || stored(p) != asked {
				t.Errorf("Format is done in %d steps", arm)
			}
			continue
		}
		for _, keep := range keeps(d.Waiting()) {
			crashed := d.Copy()
			crashed.Crash(keep...)
			if arm == 6 && keep[0] {
				if survived(t, "Format whose top is kept", crashed) != asked {
					t.Error("Format whose top is kept is another one")
				}
				continue
			}
			opens(t, fmt.Sprintf("Format cut at step %d, keeping %v", arm, keep), crashed, api.ErrCorrupt)
		}
	}
}
