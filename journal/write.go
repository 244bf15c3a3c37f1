package journal

import (
	"bytes"

	"lamina/api"
	"lamina/box"
	"lamina/disk"
	"lamina/wire"
)

// row is sectors that shall stand one behind the other.
type row struct {
	at      int // the first one's number
	sectors []api.Sector
}

// put writes the row, and makes it sure.
func (r row) put(d *disk.Disk) error {
	for k, s := range r.sectors {
		if err := d.Write(r.at+k, s); err != nil {
			return err
		}
	}
	return d.Flush()
}

// write puts rows, each when the one ahead of it is sure.
func (j *Journal) write(rows ...row) error {
	for _, r := range rows {
		if err := r.put(j.disk); err != nil {
			j.stuck = true
			return err
		}
	}
	return nil
}

// begin checkpoints a state that an area has room for.
func (j *Journal) begin(gen int, state []byte) error {
	// All is sealed ahead of the first write: if there is no such generation, nothing is done.
	body, err := sealed(stateKind, gen, 0, box.Parts(state)...)
	if err != nil {
		return err
	}
	top, err := sealed(topKind, gen, 0, packed(len(state)))
	if err != nil {
		return err
	}
	if err := j.write(row{j.stateAt(gen), body}, row{topAt(gen), top}); err != nil {
		return err
	}
	j.gen, j.state = gen, bytes.Clone(state)
	j.txs, j.used = nil, 0
	return nil
}

// add appends a transaction that the log has room for.
func (j *Journal) add(tx []byte) error {
	body, err := sealed(txKind, j.gen, j.used, box.Parts(tx)...)
	if err != nil {
		return err
	}
	place := j.used + len(body)
	end, err := sealed(endKind, j.gen, place, packed(len(body)))
	if err != nil {
		return err
	}
	if err := j.write(row{j.logAt() + j.used, body}, row{j.logAt() + place, end}); err != nil {
		return err
	}
	j.txs = append(j.txs, bytes.Clone(tx))
	j.used = place + 1
	return nil
}

// sealed is the sectors of boxes with these data, whose numbers go on from the first one.
func sealed(kind, gen, first int, data ...[]byte) ([]api.Sector, error) {
	sectors := make([]api.Sector, len(data))
	for k, d := range data {
		s, err := box.Seal(box.Box{Kind: kind, Gen: gen, Number: first + k, Data: d})
		if err != nil {
			return nil, err
		}
		sectors[k] = s
	}
	return sectors, nil
}

// packed is a number as a box's data.
func packed(n int) []byte {
	w := &wire.Writer{}
	w.Num(n)
	return w.Out()
}
