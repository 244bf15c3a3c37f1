package disk_test

import (
	"errors"
	"math"
	"slices"
	"testing"

	"lamina/api"
	"lamina/disk"
)

// pattern is a sector all of whose bytes hang on seed, so that one that is put together of two is seen.
func pattern(seed int) api.Sector {
	var s api.Sector
	for i := range s {
		s[i] = byte(seed*31 + i*7 + seed>>8 + 1)
	}
	return s
}

// newDisk is a disk, or the end of the test.
func newDisk(t *testing.T, sectors int) *disk.Disk {
	t.Helper()
	d, err := disk.New(sectors)
	if err != nil || d == nil {
		t.Fatalf("New(%d): %v, %v", sectors, d, err)
	}
	return d
}

// must ends the test if there was an error.
func must(t *testing.T, err error) {
	t.Helper()
	if err != nil {
		t.Fatal(err)
	}
}

// want tells of an error that isn't the one that is asked for.
func want(t *testing.T, what string, got, asked error) {
	t.Helper()
	if got == nil && asked == nil {
		return
	}
	if got == nil || asked == nil || !errors.Is(got, asked) {
		t.Errorf("%s answers %v, not %v", what, got, asked)
	}
}

// outside is numbers of which no sector of a disk of so many is one.
func outside(sectors int) []int {
	return []int{-1, -2, sectors, sectors + 1, 1 << 32, math.MinInt, math.MaxInt}
}

// P2.1: New and what a disk is at first

func TestNewCounts(t *testing.T) {
	for _, n := range []int{0, -1, 4097, 4098, 1<<32 + 1, -1<<32 + 1, math.MinInt, math.MaxInt} {
		d, err := disk.New(n)
		want(t, "New", err, api.ErrRange)
		if d != nil {
			t.Errorf("New(%d) has a disk beside its error", n)
		}
	}
	for _, n := range []int{1, 2, 100, 4095, 4096} {
		d := newDisk(t, n)
		if d.Len() != n || d.Waiting() != 0 || d.Steps() != 0 || d.Down() {
			t.Errorf("a new disk of %d: %d, %d, %d, %v", n, d.Len(), d.Waiting(), d.Steps(), d.Down())
		}
	}
}

func TestNewIsNoughts(t *testing.T) {
	d := newDisk(t, 4096)
	for i := range 4096 {
		if s, err := d.Read(i); s != (api.Sector{}) || err != nil || d.Sure(i) != (api.Sector{}) {
			t.Fatalf("sector %d is not noughts, or %v", i, err)
		}
	}
}

func TestNewIsNotArmed(t *testing.T) {
	d := newDisk(t, 1)
	for range 1000 {
		must(t, d.Flush())
	}
	if d.Steps() != 1000 {
		t.Errorf("%d steps", d.Steps())
	}
}

// P2.1: Write, Flush, Read and Sure

func TestEachSectorIsItsOwn(t *testing.T) {
	d := newDisk(t, 4096)
	for i := range 4096 {
		must(t, d.Write(i, pattern(i)))
	}
	must(t, d.Flush())
	for i := range 4096 {
		if s, err := d.Read(i); s != pattern(i) || err != nil || d.Sure(i) != pattern(i) {
			t.Fatalf("sector %d is another one, or %v", i, err)
		}
	}
}

func TestReadIsTheLastWrite(t *testing.T) {
	d := newDisk(t, 3)
	for k := 1; k < 20; k++ {
		must(t, d.Write(k%2, pattern(k)))
		if s, err := d.Read(k % 2); s != pattern(k) || err != nil {
			t.Errorf("write %d isn't read, or %v", k, err)
		}
		if d.Sure(0) != (api.Sector{}) || d.Sure(1) != (api.Sector{}) {
			t.Errorf("write %d is sure already", k)
		}
		if d.Waiting() != k || d.Steps() != k {
			t.Errorf("behind write %d: %d wait, %d steps", k, d.Waiting(), d.Steps())
		}
	}
	must(t, d.Flush())
	if d.Sure(0) != pattern(18) || d.Sure(1) != pattern(19) || d.Sure(2) != (api.Sector{}) {
		t.Error("a flush doesn't make the last writes sure")
	}
	if d.Waiting() != 0 || d.Steps() != 20 {
		t.Errorf("behind the flush: %d wait, %d steps", d.Waiting(), d.Steps())
	}
}

func TestNoughtsAreWrittenToo(t *testing.T) {
	d := newDisk(t, 1)
	must(t, d.Write(0, pattern(1)))
	must(t, d.Flush())
	must(t, d.Write(0, api.Sector{}))
	if s, err := d.Read(0); s != (api.Sector{}) || err != nil || d.Sure(0) != pattern(1) {
		t.Error("noughts that wait aren't read", err)
	}
	must(t, d.Flush())
	if d.Sure(0) != (api.Sector{}) {
		t.Error("noughts that were flushed aren't sure")
	}
}

func TestFlushOfNothingIsAStep(t *testing.T) {
	d := newDisk(t, 1)
	must(t, d.Flush())
	must(t, d.Flush())
	if d.Steps() != 2 {
		t.Errorf("%d steps", d.Steps())
	}
}

func TestNoSuchSector(t *testing.T) {
	for _, n := range []int{1, 5, 4096} {
		d := newDisk(t, n)
		must(t, d.Arm(1))
		for _, i := range outside(n) {
			want(t, "Write", d.Write(i, pattern(1)), api.ErrRange)
			s, err := d.Read(i)
			want(t, "Read", err, api.ErrRange)
			if s != (api.Sector{}) || d.Sure(i) != (api.Sector{}) {
				t.Errorf("of %d sectors, number %d is not noughts", n, i)
			}
		}
		if d.Waiting() != 0 || d.Steps() != 0 || d.Down() {
			t.Errorf("a refused write did something: %d wait, %d steps", d.Waiting(), d.Steps())
		}
		want(t, "the one step that it is armed with", d.Flush(), nil)
		for _, i := range outside(n) {
			want(t, "Write, armed with 0", d.Write(i, pattern(1)), api.ErrRange)
		}
		if d.Down() {
			t.Error("the power went at a write to no sector")
		}
	}
}

// P2.1: the power

func TestPowerGoesAtEachStep(t *testing.T) {
	for steps := range 12 {
		for _, flush := range []bool{false, true} {
			d := newDisk(t, 2)
			must(t, d.Write(1, pattern(99)))
			must(t, d.Arm(steps))
			for k := range steps {
				if d.Down() {
					t.Fatalf("armed with %d, down behind %d", steps, k)
				}
				must(t, d.Write(0, pattern(k)))
			}
			if d.Down() {
				t.Fatalf("armed with %d, down ahead of the step that fails", steps)
			}
			if flush {
				want(t, "Flush", d.Flush(), api.ErrDown)
			} else {
				want(t, "Write", d.Write(1, pattern(7)), api.ErrDown)
			}
			if !d.Down() || d.Waiting() != steps+1 || d.Steps() != steps+1 || d.Sure(1) != (api.Sector{}) {
				t.Errorf("armed with %d: %v, %d wait, %d steps", steps, d.Down(), d.Waiting(), d.Steps())
			}
		}
	}
}

func TestFlushCountsForTheArmed(t *testing.T) {
	d := newDisk(t, 1)
	must(t, d.Arm(2))
	must(t, d.Flush())
	must(t, d.Write(0, pattern(1)))
	want(t, "Flush", d.Flush(), api.ErrDown)
	if d.Steps() != 2 {
		t.Errorf("%d steps", d.Steps())
	}
}

// down is a disk of 2 sectors whose power is gone: sector 0 is sure, a write of sector 1 waits, 3 steps were done.
func down(t *testing.T) *disk.Disk {
	t.Helper()
	d := newDisk(t, 2)
	must(t, d.Write(0, pattern(1)))
	must(t, d.Flush())
	must(t, d.Write(1, pattern(2)))
	must(t, d.Arm(0))
	want(t, "Write, armed with 0", d.Write(0, pattern(3)), api.ErrDown)
	return d
}

func TestWhilePowerIsGone(t *testing.T) {
	d := down(t)
	for range 3 {
		want(t, "Write", d.Write(0, pattern(4)), api.ErrDown)
		want(t, "Flush", d.Flush(), api.ErrDown)
		for _, i := range append(outside(2), 0, 1) {
			s, err := d.Read(i)
			want(t, "Read", err, api.ErrDown)
			if s != (api.Sector{}) {
				t.Error("bytes are read while the power is gone")
			}
		}
		for _, i := range outside(2) {
			want(t, "Write to no sector", d.Write(i, pattern(4)), api.ErrRange)
		}
		if !d.Down() || d.Len() != 2 || d.Waiting() != 1 || d.Steps() != 3 {
			t.Errorf("%v, %d, %d wait, %d steps", d.Down(), d.Len(), d.Waiting(), d.Steps())
		}
		if d.Sure(0) != pattern(1) || d.Sure(1) != (api.Sector{}) {
			t.Error("what is sure is another one while the power is gone")
		}
	}
}

func TestArmDoesNotBringPowerBack(t *testing.T) {
	d := down(t)
	want(t, "Arm", d.Arm(5), nil)
	want(t, "Arm below 0", d.Arm(-5), api.ErrRange)
	if !d.Down() {
		t.Error("the power is back")
	}
	want(t, "Write", d.Write(0, pattern(4)), api.ErrDown)
	d.Crash()
	for range 20 {
		want(t, "Flush behind the crash, armed no more", d.Flush(), nil)
	}
}

func TestArmAgain(t *testing.T) {
	d := newDisk(t, 1)
	must(t, d.Arm(0))
	for _, n := range []int{-1, -2, math.MinInt} {
		want(t, "Arm below 0", d.Arm(n), api.ErrRange)
	}
	must(t, d.Arm(3))
	for _, n := range []int{-1, -2, math.MinInt} {
		want(t, "Arm below 0", d.Arm(n), api.ErrRange)
	}
	must(t, d.Flush())
	must(t, d.Arm(2))
	must(t, d.Flush())
	must(t, d.Flush())
	want(t, "the third step of 2", d.Flush(), api.ErrDown)
	if d.Steps() != 3 {
		t.Errorf("%d steps", d.Steps())
	}
}

func TestArmBelowNoughtArmsNothing(t *testing.T) {
	d := newDisk(t, 1)
	want(t, "Arm below 0", d.Arm(-1), api.ErrRange)
	for range 10 {
		want(t, "Flush", d.Flush(), nil)
	}
}

func TestArmWithTheGreatest(t *testing.T) {
	d := newDisk(t, 1)
	must(t, d.Arm(math.MaxInt))
	for range 10 {
		want(t, "Flush", d.Flush(), nil)
	}
}

// P2.1: a crash

func TestCrashKeepsByPlace(t *testing.T) {
	for mask := range 1 << 5 {
		for given := range 8 {
			d := newDisk(t, 2)
			var keep []bool
			for n := range given {
				keep = append(keep, mask>>n&1 == 1)
			}
			wanted := [2]api.Sector{pattern(100), {}}
			must(t, d.Write(0, pattern(100)))
			must(t, d.Flush())
			for n := range 5 {
				must(t, d.Write(n/2%2, pattern(n)))
				if n < given && keep[n] {
					wanted[n/2%2] = pattern(n)
				}
			}
			d.Crash(keep...)
			for i, w := range wanted {
				if s, err := d.Read(i); s != w || err != nil || d.Sure(i) != w {
					t.Fatalf("keeping %v: sector %d is another one, or %v", keep, i, err)
				}
			}
			if d.Waiting() != 0 || d.Steps() != 7 || d.Down() {
				t.Fatalf("keeping %v: %d wait, %d steps, %v", keep, d.Waiting(), d.Steps(), d.Down())
			}
		}
	}
}

func TestExampleOfTheDocument(t *testing.T) {
	d := newDisk(t, 2)
	must(t, d.Write(0, pattern(1)))
	must(t, d.Flush())
	must(t, d.Write(0, pattern(2)))
	must(t, d.Write(1, pattern(3)))
	d.Crash(false, true)
	if d.Sure(0) != pattern(1) || d.Sure(1) != pattern(3) {
		t.Error("it isn't as the example says")
	}
}

func TestCrashDisarms(t *testing.T) {
	d := newDisk(t, 1)
	must(t, d.Arm(1))
	d.Crash(true, true, true)
	for range 10 {
		want(t, "Flush", d.Flush(), nil)
	}
	if d.Steps() != 10 {
		t.Errorf("%d steps", d.Steps())
	}
}

func TestPowerComesBack(t *testing.T) {
	d := down(t)
	d.Crash(true)
	if d.Down() || d.Waiting() != 0 || d.Steps() != 3 || d.Sure(1) != pattern(2) {
		t.Errorf("%v, %d wait, %d steps", d.Down(), d.Waiting(), d.Steps())
	}
	must(t, d.Write(0, pattern(8)))
	if s, err := d.Read(0); s != pattern(8) || err != nil {
		t.Error("behind the crash a write isn't read", err)
	}
	d.Crash()
	if d.Sure(0) != pattern(1) || d.Waiting() != 0 {
		t.Error("a lost write is there, or waits")
	}
	must(t, d.Flush())
	if d.Sure(0) != pattern(1) || d.Steps() != 5 {
		t.Error("a lost write came back by a flush")
	}
}

// P2.1: a nil disk

func TestNilDisk(t *testing.T) {
	var d *disk.Disk
	for _, i := range []int{0, 1, -1, math.MinInt, math.MaxInt} {
		want(t, "Write", d.Write(i, pattern(1)), api.ErrDown)
		s, err := d.Read(i)
		want(t, "Read", err, api.ErrDown)
		if s != (api.Sector{}) || d.Sure(i) != (api.Sector{}) {
			t.Error("a nil disk's sectors aren't noughts")
		}
		want(t, "Arm", d.Arm(i), api.ErrDown)
	}
	want(t, "Flush", d.Flush(), api.ErrDown)
	d.Crash()
	d.Crash(true, false)
	if d.Len() != 0 || d.Waiting() != 0 || d.Steps() != 0 || !d.Down() || d.Copy() != nil {
		t.Error("a nil disk holds something")
	}
}

// P2.1: what is handed in is neither changed nor kept

func TestHandedInStays(t *testing.T) {
	d := newDisk(t, 2)
	s := pattern(1)
	must(t, d.Write(0, s))
	s[5]++
	if got, err := d.Read(0); got != pattern(1) || err != nil {
		t.Error("the sector that was handed in was kept", err)
	}
	room := []bool{true, false, true, true}
	d.Crash(room[:2]...)
	if !slices.Equal(room, []bool{true, false, true, true}) {
		t.Error("what is kept was changed")
	}
	must(t, d.Write(1, pattern(2)))
	got, _ := d.Read(1)
	got[0]++
	sure := d.Sure(0)
	sure[0]++
	if again, _ := d.Read(1); again != pattern(2) || d.Sure(0) != pattern(1) {
		t.Error("an answer hangs together with the disk")
	}
}

// P2.2

// plan is what is done with a disk: a sector's number of a write, or -1, a flush.
var plan = []int{0, 1, -1, 1, 0, 0, -1, -1, 2, 0, 2, 1, -1, 0}

// cut does plan with the power going behind so many steps: the disk; of each sector what may be there behind a crash, the first of which is what was flushed; and how many writes wait.
func cut(t *testing.T, steps int) (*disk.Disk, [3][]api.Sector, int) {
	t.Helper()
	d := newDisk(t, 3)
	must(t, d.Arm(steps))
	var may [3][]api.Sector
	for i := range may {
		may[i] = []api.Sector{{}}
	}
	waiting := 0
	for k, i := range plan {
		err := error(nil)
		if i < 0 {
			err = d.Flush()
		} else {
			err = d.Write(i, pattern(k))
		}
		if k >= steps {
			want(t, "a step behind the last one", err, api.ErrDown)
			continue
		}
		must(t, err)
		if i >= 0 {
			may[i] = append(may[i], pattern(k))
			waiting++
			continue
		}
		for j := range may {
			may[j] = may[j][len(may[j])-1:]
		}
		waiting = 0
	}
	return d, may, waiting
}

func TestSectorsAreWholeBehindACrash(t *testing.T) {
	for steps := range len(plan) + 1 {
		first, may, waiting := cut(t, steps)
		if first.Waiting() != waiting {
			t.Fatalf("cut at %d: %d wait, not %d", steps, first.Waiting(), waiting)
		}
		for mask := range 1 << waiting {
			d := first.Copy()
			var keep []bool
			for n := range waiting {
				keep = append(keep, mask>>n&1 == 1)
			}
			d.Crash(keep...)
			for i := range may {
				s, err := d.Read(i)
				if err != nil || s != d.Sure(i) || !slices.Contains(may[i], s) {
					t.Fatalf("cut at %d, keeping %v: sector %d isn't one of those that it may be, or %v", steps, keep, i, err)
				}
				if mask == 0 && s != may[i][0] {
					t.Fatalf("cut at %d, keeping none: sector %d isn't what was flushed", steps, i)
				}
				if mask == 1<<waiting-1 && s != may[i][len(may[i])-1] {
					t.Fatalf("cut at %d, keeping all: sector %d isn't what was written last", steps, i)
				}
			}
		}
	}
}

// P2.3

func TestCopyIsLikeIt(t *testing.T) {
	d := newDisk(t, 3)
	must(t, d.Write(0, pattern(1)))
	must(t, d.Flush())
	must(t, d.Write(1, pattern(2)))
	must(t, d.Write(0, pattern(3)))
	must(t, d.Arm(1))
	c := d.Copy()
	if c == d || c.Len() != 3 || c.Waiting() != 2 || c.Steps() != 4 || c.Down() {
		t.Errorf("%d, %d wait, %d steps, %v", c.Len(), c.Waiting(), c.Steps(), c.Down())
	}
	if s, err := c.Read(0); s != pattern(3) || err != nil || c.Sure(0) != pattern(1) || c.Sure(1) != (api.Sector{}) {
		t.Error("a copy's sectors are others", err)
	}
	must(t, c.Write(2, pattern(4)))
	want(t, "the copy's second step", c.Flush(), api.ErrDown)
	if d.Down() {
		t.Error("the copy's power went with the disk's")
	}
	if e := c.Copy(); !e.Down() || e.Waiting() != 3 {
		t.Error("a copy of a disk that is down isn't down")
	}
	c.Crash(false, true, true)
	if c.Sure(0) != pattern(3) || c.Sure(1) != (api.Sector{}) || c.Sure(2) != pattern(4) {
		t.Error("what waited with the copy is lost")
	}
}

func TestCopiesAreApart(t *testing.T) {
	d := newDisk(t, 2)
	for k := range 3 { // three, so that the list of those that wait has spare room
		must(t, d.Write(0, pattern(k)))
	}
	c, e := d.Copy(), d.Copy()
	must(t, d.Write(1, pattern(10)))
	must(t, c.Write(1, pattern(11)))
	must(t, e.Flush())
	must(t, e.Write(0, pattern(12)))
	must(t, e.Arm(0))
	want(t, "Flush", e.Flush(), api.ErrDown)
	for _, x := range []struct {
		d     *disk.Disk
		s     api.Sector
		sure  api.Sector
		wait  int
		steps int
	}{
		{d, pattern(10), api.Sector{}, 4, 4},
		{c, pattern(11), api.Sector{}, 4, 4},
	} {
		s, err := x.d.Read(1)
		if s != x.s || err != nil || x.d.Sure(0) != x.sure || x.d.Waiting() != x.wait || x.d.Steps() != x.steps {
			t.Errorf("a copy changed another one: %v, %d wait, %d steps", err, x.d.Waiting(), x.d.Steps())
		}
		must(t, x.d.Flush())
		if x.d.Sure(0) != pattern(2) || x.d.Sure(1) != x.s {
			t.Error("what was flushed is another copy's")
		}
	}
	if e.Sure(0) != pattern(2) || e.Sure(1) != (api.Sector{}) || e.Waiting() != 1 || e.Steps() != 5 {
		t.Errorf("the copy that is down: %d wait, %d steps", e.Waiting(), e.Steps())
	}
	d.Crash()
	if !e.Down() || e.Waiting() != 1 {
		t.Error("a crash of one is a crash of its copy")
	}
}
