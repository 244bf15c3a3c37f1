package rules

import (
	"lamina/api"
	"lamina/head"
	"lamina/marks"
)

// view is where a head, or a snapshot, tells of its marks.
type view struct {
	on   bool
	good *bool
	row  marks.Marks
}

func ofHead(h *head.Head) view { return view{h.MapOn, &h.MapGood, h.Map} }

func ofSnap(s *head.Snap) view { return view{s.MapOn, &s.MapGood, s.Map} }

// follow takes over the marks of a snapshot that goes: what changed ahead of that one has changed ahead of this view then.
// Where one of both has no marks nothing needs to be asked: its row is empty, and isn't good.
func (v view) follow(gone view) {
	for i := range min(len(v.row), len(gone.row)) {
		if v.row[i] == marks.Clean && (gone.row[i] == marks.There || gone.row[i] == marks.Going) {
			v.row[i] = marks.There
		}
	}
	*v.good = *v.good && *gone.good
}

// Mark sets a mark.
func Mark(h head.Head, index int, mark byte) (head.Head, error) {
	return change(h, func(h *head.Head) error {
		if index < 0 || index >= head.Objects(h.Size, h.Object) || mark > marks.Clean {
			return api.ErrRange
		}
		if h.MapOn {
			h.Map[index] = mark
		}
		return nil
	})
}

// Rebuilt sets all marks of the head or a snapshot.
func Rebuilt(h head.Head, num int, m marks.Marks) (head.Head, error) {
	return change(h, func(h *head.Head) error {
		v := ofHead(h)
		if num != 0 {
			at := h.Number(num)
			if at < 0 {
				return api.ErrNone
			}
			v = ofSnap(&h.Snaps[at])
		}
		if !v.on {
			return api.ErrState
		}
		if _, err := marks.Put(m); err != nil || len(m) != len(v.row) {
			return api.ErrRange
		}
		copy(v.row, m)
		*v.good = true
		return nil
	})
}

// MapTurn turns marks on or off.
func MapTurn(h head.Head, on, good bool) (head.Head, error) {
	return change(h, func(h *head.Head) error {
		if good && !on {
			return api.ErrRange
		}
		h.MapOn, h.MapGood = on, good
		if !on {
			h.Map = nil
		}
		fit(h)
		return nil
	})
}
