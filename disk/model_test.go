package disk_test

import (
	"math"
	"slices"
	"testing"

	"lamina/api"
	"lamina/disk"
)

// model is a disk as the chapter tells it, kept in the plainest way: all writes of what waits, gone through from the first one on at each read.
type model struct {
	sure    []api.Sector
	numbers []int
	sectors []api.Sector
	steps   int
	armed   int // -1: it isn't
	gone    bool
}

func newModel(sectors int) *model { return &model{sure: make([]api.Sector, sectors), armed: -1} }

func (m *model) copy() *model {
	return &model{slices.Clone(m.sure), slices.Clone(m.numbers), slices.Clone(m.sectors), m.steps, m.armed, m.gone}
}

func (m *model) step() error {
	switch {
	case m.gone:
		return api.ErrDown
	case m.armed == 0:
		m.gone = true
		return api.ErrDown
	case m.armed > 0:
		m.armed--
	}
	m.steps++
	return nil
}

func (m *model) write(i int, s api.Sector) error {
	if i < 0 || i >= len(m.sure) {
		return api.ErrRange
	}
	err := m.step()
	if err == nil {
		m.numbers, m.sectors = append(m.numbers, i), append(m.sectors, s)
	}
	return err
}

func (m *model) flush() error {
	err := m.step()
	if err == nil {
		m.sure, m.numbers, m.sectors = m.all(), nil, nil
	}
	return err
}

func (m *model) all() []api.Sector {
	out := slices.Clone(m.sure)
	for n, i := range m.numbers {
		out[i] = m.sectors[n]
	}
	return out
}

func (m *model) crash(keep []bool) {
	for n, k := range keep {
		if k && n < len(m.numbers) {
			m.sure[m.numbers[n]] = m.sectors[n]
		}
	}
	m.numbers, m.sectors, m.armed, m.gone = nil, nil, -1, false
}

func (m *model) arm(n int) error {
	if n < 0 {
		return api.ErrRange
	}
	m.armed = n
	return nil
}

// row is numbers that hang on its seed alone.
type row uint64

func (r *row) below(n int) int {
	*r = *r*6364136223846793005 + 1442695040888963407
	return int(uint64(*r)>>33) % n
}

// number is mostly a sector of so many, and at times none.
func (r *row) number(sectors int) int {
	if r.below(8) == 0 {
		return []int{-1, sectors, sectors + 1, math.MinInt, math.MaxInt}[r.below(5)]
	}
	return r.below(sectors)
}

// keep is which writes are kept, of so many that wait: now and then fewer or more are told of.
func (r *row) keep(waiting int) []bool {
	out := make([]bool, r.below(waiting+4))
	for n := range out {
		out[n] = r.below(2) == 0
	}
	return out
}

// pair is a disk and what it shall be.
type pair struct {
	d *disk.Disk
	m *model
}

func (p pair) act(t *testing.T, r *row) {
	t.Helper()
	switch r.below(8) {
	case 0, 1, 2, 3:
		i, s := r.number(len(p.m.sure)), pattern(r.below(1<<16))
		want(t, "Write", p.d.Write(i, s), p.m.write(i, s))
	case 4, 5:
		want(t, "Flush", p.d.Flush(), p.m.flush())
	case 6:
		n := r.below(30) - 4
		want(t, "Arm", p.d.Arm(n), p.m.arm(n))
	case 7:
		if !p.m.gone && r.below(4) != 0 {
			return
		}
		keep := r.keep(len(p.m.numbers))
		p.d.Crash(keep...)
		p.m.crash(keep)
	}
}

func (p pair) compare(t *testing.T) {
	t.Helper()
	if p.d.Len() != len(p.m.sure) || p.d.Waiting() != len(p.m.numbers) || p.d.Steps() != p.m.steps || p.d.Down() != p.m.gone {
		t.Fatalf("%d, %d wait, %d steps, %v; not %d, %d, %d, %v", p.d.Len(), p.d.Waiting(), p.d.Steps(), p.d.Down(),
			len(p.m.sure), len(p.m.numbers), p.m.steps, p.m.gone)
	}
	all := p.m.all()
	for i := -1; i <= len(all); i++ {
		var wanted, sure api.Sector
		var asked error
		inside := i >= 0 && i < len(all)
		if inside {
			sure = p.m.sure[i]
		}
		switch {
		case p.m.gone:
			asked = api.ErrDown
		case !inside:
			asked = api.ErrRange
		default:
			wanted = all[i]
		}
		s, err := p.d.Read(i)
		want(t, "Read", err, asked)
		if s != wanted || p.d.Sure(i) != sure {
			t.Fatalf("sector %d is another one", i)
		}
	}
}

// P2.1 and P2.3: any calls in any order, with disks that are copies one of the other.
func TestAnyOrderAsTheModel(t *testing.T) {
	for seed := range 150 {
		r := row(seed)
		n := 1 + r.below(6)
		pairs := []pair{{newDisk(t, n), newModel(n)}}
		for range 200 {
			at := r.below(len(pairs))
			if r.below(20) == 0 {
				fresh := pair{pairs[at].d.Copy(), pairs[at].m.copy()}
				if len(pairs) < 4 {
					pairs = append(pairs, fresh)
				} else {
					pairs[r.below(len(pairs))] = fresh
				}
			}
			pairs[at].act(t, &r)
			for _, p := range pairs {
				p.compare(t)
			}
			if t.Failed() {
				t.Fatalf("with the row of %d", seed)
			}
		}
	}
}
