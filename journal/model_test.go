package journal_test

import (
	"bytes"
	"errors"
	"slices"
	"testing"

	"lamina/api"
	"lamina/box"
	"lamina/disk"
	"lamina/journal"
)

// dice is numbers that hang on its seed alone.
type dice uint64

func (r *dice) below(n int) int {
	*r = *r*6364136223846793005 + 1442695040888963407
	return int(uint64(*r)>>33) % n
}

func (r *dice) bytes(n int) []byte {
	b := make([]byte, n)
	for i := range b {
		b[i] = byte(r.below(256))
	}
	return b
}

// keep is which writes are kept, of so many that wait: now and then fewer or more are told of.
func (r *dice) keep(waiting int) []bool {
	out := make([]bool, r.below(waiting+3))
	for n := range out {
		out[n] = r.below(2) == 0
	}
	return out
}

// model is a journal as the chapter tells it, on a disk of its own.
type model struct {
	d     *disk.Disk
	gen   int
	state []byte
	txs   [][]byte
	used  int
	stuck bool
}

// area is the first sector of an area, and the log's of number 2.
func (m *model) area(i int) int { return 2 + i*((m.d.Len()-2)/3) }

// plainParts is layer 4's Parts: all rows are full but for the last one.
func plainParts(b []byte) [][]byte {
	var out [][]byte
	for len(b) > 106 {
		out, b = append(out, b[:106]), b[106:]
	}
	if len(b) > 0 {
		out = append(out, b)
	}
	return out
}

// plainFormat is layer 5's Format, as the chapter tells it.
func plainFormat(d *disk.Disk, state []byte) (*model, error) {
	m := &model{d: d}
	if d.Len() < 8 {
		return nil, api.ErrRange
	}
	if len(plainParts(state)) > (d.Len()-2)/3 {
		return nil, api.ErrFull
	}
	if d.Write(0, api.Sector{}) != nil || d.Write(1, api.Sector{}) != nil || d.Flush() != nil {
		return nil, api.ErrDown
	}
	if err := m.checkpoint(state); err != nil {
		return nil, err
	}
	return m, nil
}

func (m *model) checkpoint(state []byte) error {
	if m.stuck {
		return api.ErrDown
	}
	if len(plainParts(state)) > (m.d.Len()-2)/3 {
		return api.ErrFull
	}
	g := m.gen + 1
	for k, part := range plainParts(state) {
		if m.d.Write(m.area(g%2)+k, seal(2, g, k, part)) != nil {
			m.stuck = true
			return api.ErrDown
		}
	}
	if m.d.Flush() != nil || m.d.Write(g%2, seal(1, g, 0, num(len(state)))) != nil || m.d.Flush() != nil {
		m.stuck = true
		return api.ErrDown
	}
	m.gen, m.state, m.txs, m.used = g, state, nil, 0
	return nil
}

func (m *model) append(tx []byte) error {
	rows := plainParts(tx)
	switch {
	case m.stuck:
		return api.ErrDown
	case len(tx) == 0:
		return api.ErrForm
	case m.used+len(rows)+1 > m.d.Len()-m.area(2):
		return api.ErrFull
	}
	for k, part := range rows {
		if m.d.Write(m.area(2)+m.used+k, seal(3, m.gen, m.used+k, part)) != nil {
			m.stuck = true
			return api.ErrDown
		}
	}
	place := m.used + len(rows)
	if m.d.Flush() != nil || m.d.Write(m.area(2)+place, seal(4, m.gen, place, num(len(rows)))) != nil || m.d.Flush() != nil {
		m.stuck = true
		return api.ErrDown
	}
	m.txs, m.used = append(m.txs, tx), place+1
	return nil
}

// plainNum is the number that is a box's data, and whether it is one.
func plainNum(data []byte) (int, bool) {
	n := 0
	for i, b := range data {
		n |= int(b) << (8 * i)
	}
	return n, len(data) == 8
}

// plainOpen is layer 5's Open, as the chapter tells it: what stands at each place is looked for in each length.
func plainOpen(d *disk.Disk) (*model, error) {
	if d.Len() < 8 {
		return nil, api.ErrRange
	}
	if d.Down() {
		return nil, api.ErrDown
	}
	at := func(i int) api.Sector {
		s, _ := d.Read(i)
		return s
	}
	m, size := &model{d: d, gen: -1}, 0
	for i := range 2 {
		b, err := box.Open(at(i))
		n, ok := plainNum(b.Data)
		if err == nil && b.Kind == 1 && b.Number == 0 && b.Gen%2 == i && ok && n >= 0 && b.Gen > m.gen {
			m.gen, size = b.Gen, n
		}
	}
	if m.gen < 0 || size > (d.Len()-2)/3*106 {
		return nil, api.ErrCorrupt
	}
	for k, like := range plainParts(make([]byte, size)) {
		part, ok := box.Is(at(m.area(m.gen%2)+k), 2, m.gen, k)
		if !ok || len(part) != len(like) {
			return nil, api.ErrCorrupt
		}
		m.state = append(m.state, part...)
	}
	for m.find(at) {
	}
	return m, nil
}

// find puts the transaction that stands behind the others to them, if there is one.
func (m *model) find(at func(i int) api.Sector) bool {
	room := m.d.Len() - m.area(2)
	for count := 1; m.used+count < room; count++ {
		var tx []byte
		all := true
		for k := range count {
			part, ok := box.Is(at(m.area(2)+m.used+k), 3, m.gen, m.used+k)
			tx, all = append(tx, part...), all && ok
		}
		data, ok := box.Is(at(m.area(2)+m.used+count), 4, m.gen, m.used+count)
		n, isNum := plainNum(data)
		if all && ok && isNum && n == count {
			m.txs, m.used = append(m.txs, tx), m.used+count+1
			return true
		}
	}
	return false
}

// pair is a journal on its disk, and what it shall be on its own.
type pair struct {
	d, e *disk.Disk
	j    *journal.Journal
	m    *model
}

// both hands the same to both disks.
func (p *pair) both(t *testing.T, do func(d *disk.Disk) error) {
	t.Helper()
	want(t, "the disk", do(p.d), do(p.e))
}

// take has what Format or Open answered: with an error the pair keeps what it has.
func (p *pair) take(t *testing.T, what string, j *journal.Journal, err error, m *model, asked error) {
	t.Helper()
	want(t, what, err, asked)
	if (j == nil) != (m == nil) {
		t.Fatalf("%s answers %v, %v", what, j, err)
	}
	if m != nil {
		p.j, p.m = j, m
	}
}

// act does the same with both.
func (p *pair) act(t *testing.T, r *dice) {
	t.Helper()
	switch r.below(16) {
	case 0:
		state := r.bytes(r.below(p.d.Len()*40 + 100))
		j, err := journal.Format(p.d, state)
		m, asked := plainFormat(p.e, state)
		p.take(t, "Format", j, err, m, asked)
	case 1, 2:
		j, err := journal.Open(p.d)
		m, asked := plainOpen(p.e)
		p.take(t, "Open", j, err, m, asked)
	case 3, 4, 5, 6, 7:
		tx := r.bytes(r.below(p.d.Len() * 20))
		want(t, "Append", p.j.Append(tx), p.m.append(tx))
	case 8, 9:
		state := r.bytes(r.below(p.d.Len()*36 + 100))
		want(t, "Checkpoint", p.j.Checkpoint(state), p.m.checkpoint(state))
	case 10, 11:
		want(t, "Append of nothing", p.j.Append(nil), p.m.append(nil))
	case 12:
		n := r.below(12)
		p.both(t, func(d *disk.Disk) error { return d.Arm(n) })
	case 13, 14:
		if p.e.Down() {
			keep := r.keep(p.e.Waiting())
			p.both(t, func(d *disk.Disk) error { d.Crash(keep...); return nil })
			j, err := journal.Open(p.d)
			m, asked := plainOpen(p.e)
			p.take(t, "Open behind a crash", j, err, m, asked)
		}
	case 15:
		i, s := r.below(p.d.Len()), p.any(r)
		p.both(t, func(d *disk.Disk) error { return d.Write(i, s) })
		p.both(t, (*disk.Disk).Flush)
	}
}

// any is a sector that might stand on the disk, at a place or another one.
func (p *pair) any(r *dice) api.Sector {
	gen := max(p.m.gen+r.below(3)-1, 0)
	switch r.below(4) {
	case 0:
		return p.e.Sure(r.below(p.e.Len()))
	case 1:
		return seal(1+r.below(2)*3, gen, r.below(3), num(r.below(300)-1))
	case 2:
		return seal(1+r.below(4), gen, r.below(p.e.Len()), r.bytes(r.below(107)))
	}
	return api.Sector(r.bytes(128))
}

// compare tells of what is another thing in one of both.
func (p *pair) compare(t *testing.T) {
	t.Helper()
	shows(t, "the journal", p.j, p.m.gen, p.m.state, p.m.txs, p.m.d.Len()-p.m.area(2)-p.m.used)
	if p.d.Steps() != p.e.Steps() || p.d.Waiting() != p.e.Waiting() || p.d.Down() != p.e.Down() {
		t.Fatalf("the disk: %d steps, %d wait; not %d, %d", p.d.Steps(), p.d.Waiting(), p.e.Steps(), p.e.Waiting())
	}
	for i := range p.e.Len() {
		s, err := p.d.Read(i)
		asked, wanted := p.e.Read(i)
		want(t, "Read", err, wanted)
		if s != asked || p.d.Sure(i) != p.e.Sure(i) {
			t.Fatalf("sector %d is % x, not % x", i, s, asked)
		}
	}
}

// P5.1: any calls in any order, with sectors that are changed by others between them.
func TestAnyOrderAsTheModel(t *testing.T) {
	opens, corrupts := 0, 0
	for seed := range 300 {
		r := dice(seed)
		n := 8 + r.below(30)
		p := &pair{d: newDisk(t, n), e: newDisk(t, n)}
		p.j = format(t, p.d, []byte("state"))
		p.m, _ = plainFormat(p.e, []byte("state"))
		for range 150 {
			p.act(t, &r)
			p.compare(t)
			if t.Failed() {
				t.Fatalf("with the row of %d", seed)
			}
		}
		if _, err := journal.Open(p.d); err == nil {
			opens++
		} else if errors.Is(err, api.ErrCorrupt) {
			corrupts++
		}
	}
	if opens < 30 || corrupts < 30 {
		t.Errorf("%d of the disks are opened, %d are corrupt: what is done with them is too tame, or too wild", opens, corrupts)
	}
}

// P5.1: logs of any sectors that fit, and some that don't.
func TestAnyLogAsTheModel(t *testing.T) {
	r := dice(5)
	counts := map[int]int{}
	for range 3000 {
		n := 14 + r.below(20)
		d := newDisk(t, n)
		format(t, d, nil)
		log := n - logSize(n)
		behind := 0
		for place := range logSize(n) {
			s := seal(3, 1, place, r.bytes(r.below(107)))
			if r.below(2) == 0 && behind > 0 {
				s = seal(4, 1, place, num(behind))
				behind = -1
			}
			if r.below(12) == 0 {
				s = seal(3+r.below(2), 1+r.below(2), place+r.below(2), num(r.below(4)))
			}
			behind++
			put(t, d, log+place, s)
		}
		m, err := plainOpen(d)
		must(t, err)
		shows(t, "any log", open(t, d), 1, nil, m.txs, logSize(n)-m.used)
		counts[min(len(m.txs), 4)]++
	}
	for count := range 5 {
		if counts[count] < 50 {
			t.Errorf("only %d logs have %d transactions", counts[count], count)
		}
	}
}

// P5.3: what is handed in to calls in any order is let go of.
func TestAnyOrderKeepsNothing(t *testing.T) {
	for seed := range 50 {
		r := dice(seed)
		d := newDisk(t, 40)
		j := format(t, d, nil)
		var state []byte
		var rows [][]byte
		for range 40 {
			b := r.bytes(1 + r.below(300))
			was := bytes.Clone(b)
			if r.below(4) == 0 {
				must(t, j.Checkpoint(b))
				state, rows = was, nil
			} else if j.Append(b) == nil {
				rows = append(rows, was)
			}
			if !bytes.Equal(b, was) {
				t.Fatal("what was handed in was changed")
			}
			spoil(b)
			if !bytes.Equal(j.State(), state) || !slices.EqualFunc(txs(t, j), rows, bytes.Equal) {
				t.Fatal("what was handed in is kept")
			}
		}
	}
}
