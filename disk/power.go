package disk

import "lamina/api"

// power is what a disk's steps hang on.
type power struct {
	steps int // how many were done
	armed bool
	left  int // after how many further steps it goes, if it is armed
	gone  bool
}

// step is to be asked ahead of what a step does.
func (p *power) step() error {
	if p.gone || p.armed && p.left == 0 {
		p.gone = true
		return api.ErrDown
	}
	p.steps++
	if p.armed {
		p.left--
	}
	return nil
}

// arm lets the power go after so many further steps.
func (p *power) arm(steps int) {
	p.armed, p.left = true, steps
}

// restore brings the power back; that steps were done stays true.
func (p *power) restore() {
	p.armed, p.left, p.gone = false, 0, false
}
