package journal

// The kinds of boxes on the disk.
const (
	topKind = iota + 1
	stateKind
	txKind
	endKind
)

const (
	least    = 8   // the fewest sectors of a disk
	tops     = 2   // how many tops there are
	areas    = 2   // how many areas there are
	partSize = 106 // how many bytes a part has, but for the last one
)

// layout tells how a disk is laid out.
type layout struct {
	area int // how many sectors an area has
	log  int // how many sectors the log has
}

// layoutOf is the layout of a disk of so many sectors.
func layoutOf(sectors int) layout {
	area := (sectors - tops) / (areas + 1)
	return layout{area: area, log: sectors - tops - areas*area}
}

// topAt is the sector of a generation's top.
func topAt(gen int) int {
	return gen % tops
}

// stateAt is the first sector of a generation's state.
func (l layout) stateAt(gen int) int {
	return tops + gen%areas*l.area
}

// logAt is the log's first sector.
func (l layout) logAt() int {
	return tops + areas*l.area
}

// parts is how many parts so many bytes have.
func parts(bytes int) int {
	if bytes == 0 {
		return 0
	}
	return (bytes-1)/partSize + 1 // what is put to them ahead of the division might wrap around
}
