package journal

import (
	"lamina/api"
	"lamina/box"
	"lamina/disk"
	"lamina/wire"
)

// readState reads the disk's generation and its state.
func (j *Journal) readState() error {
	heads, err := read(j.disk, 0, tops)
	if err != nil {
		return err
	}
	gen, size, ok := newest(heads)
	if !ok {
		return api.ErrCorrupt
	}
	area, err := read(j.disk, j.stateAt(gen), j.area)
	if err != nil {
		return err
	}
	state, ok := joined(area, gen, size)
	if !ok {
		return api.ErrCorrupt
	}
	j.gen, j.state = gen, state
	return nil
}

// readLog reads the transactions of the generation.
func (j *Journal) readLog() error {
	log, err := read(j.disk, j.logAt(), j.log)
	if err != nil {
		return err
	}
	for {
		tx, sectors := standing(log[j.used:], j.gen, j.used)
		if sectors == 0 {
			return nil
		}
		j.txs = append(j.txs, tx)
		j.used += sectors
	}
}

// read is so many sectors of a disk, from one on.
func read(d *disk.Disk, at, count int) ([]api.Sector, error) {
	sectors := make([]api.Sector, count)
	for k := range sectors {
		s, err := d.Read(at + k)
		if err != nil {
			return nil, err
		}
		sectors[k] = s
	}
	return sectors, nil
}

// newest is the greater generation of the tops, and how many bytes its state has; false, if none of them is one.
func newest(heads []api.Sector) (gen, size int, ok bool) {
	for i, s := range heads {
		g, n, is := told(s)
		if is && topAt(g) == i && (!ok || g > gen) {
			gen, size, ok = g, n, true
		}
	}
	return gen, size, ok
}

// told is the generation that a top tells of, and how many bytes its state has; false, if it is no generation's top.
func told(s api.Sector) (gen, size int, ok bool) {
	b, err := box.Open(s)
	if err != nil || b.Kind != topKind || b.Number != 0 {
		return 0, 0, false
	}
	size, ok = number(b.Data)
	if !ok || size < 0 {
		return 0, 0, false
	}
	return b.Gen, size, true
}

// joined is the state of so many bytes whose parts stand in an area; false, if one of them isn't there.
func joined(area []api.Sector, gen, size int) ([]byte, bool) {
	if parts(size) > len(area) {
		return nil, false
	}
	var state []byte
	for k := range parts(size) {
		part, ok := box.Is(area[k], stateKind, gen, k)
		if !ok || len(part) != min(partSize, size-len(state)) {
			return nil, false
		}
		state = append(state, part...)
	}
	return state, true
}

// standing is the transaction that stands first in a log's sectors from a place on, and how many of them it takes; 0, if none does.
func standing(log []api.Sector, gen, place int) ([]byte, int) {
	var tx []byte
	for k, s := range log {
		part, ok := box.Is(s, txKind, gen, place+k)
		if !ok && k > 0 && isEnd(s, gen, place+k, k) {
			return tx, k + 1
		}
		if !ok {
			return nil, 0
		}
		tx = append(tx, part...)
	}
	return nil, 0
}

// isEnd tells whether a sector is the end that stands at a place, behind so many parts.
func isEnd(s api.Sector, gen, place, count int) bool {
	data, ok := box.Is(s, endKind, gen, place)
	if !ok {
		return false
	}
	n, ok := number(data)
	return ok && n == count
}

// number is the number that a box's data are; false, if they are none.
func number(data []byte) (int, bool) {
	r := wire.NewReader(data)
	n := r.Num()
	if r.End() != nil {
		return 0, false
	}
	return n, true
}
