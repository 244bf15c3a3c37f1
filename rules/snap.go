package rules

import (
	"math"
	"slices"

	"lamina/api"
	"lamina/head"
)

// SnapMake makes a snapshot.
func SnapMake(h head.Head, name string) (head.Head, error) {
	return change(h, func(h *head.Head) error {
		switch {
		case h.Intent != nothing:
			return api.ErrBusy
		case !head.Named(name):
			return api.ErrRange
		case h.Snap(name) >= 0:
			return api.ErrExists
		case len(h.Snaps) >= api.MaxSnaps || h.Seq == math.MaxInt:
			return api.ErrFull
		}
		h.Seq++
		h.Snaps = append(h.Snaps, head.Snap{Num: h.Seq, Name: name, Size: h.Size, MapOn: h.MapOn, MapGood: h.MapGood, Map: h.Map, Link: h.Link})
		// Frozen marks are new memory: the snapshot keeps the row that was the head's.
		h.Map = h.Map.Frozen()
		return nil
	})
}

// Protect protects a snapshot.
func Protect(h head.Head, name string) (head.Head, error) {
	return changeSnap(h, name, func(s *head.Snap) error {
		if h.Intent == Remove && h.To == s.Num {
			return api.ErrBusy
		}
		if s.Protected {
			return api.ErrProtected
		}
		s.Protected = true
		return nil
	})
}

// Unprotect ends that.
func Unprotect(h head.Head, name string) (head.Head, error) {
	return changeSnap(h, name, func(s *head.Snap) error {
		if !s.Protected {
			return api.ErrState
		}
		if len(s.Children) > 0 {
			return api.ErrBusy
		}
		s.Protected = false
		return nil
	})
}

// AddChild gives a snapshot a child.
func AddChild(h head.Head, name, child string) (head.Head, error) {
	return changeSnap(h, name, func(s *head.Snap) error {
		if !head.Named(child) {
			return api.ErrRange
		}
		if !s.Protected {
			return api.ErrState
		}
		at, is := slices.BinarySearch(s.Children, child)
		if is {
			return api.ErrExists
		}
		s.Children = slices.Insert(s.Children, at, child)
		return nil
	})
}

// DropChild takes a child from a snapshot.
func DropChild(h head.Head, num int, child string) (head.Head, error) {
	return change(h, func(h *head.Head) error {
		place := h.Number(num)
		if place < 0 {
			return api.ErrNone
		}
		s := &h.Snaps[place]
		at, is := slices.BinarySearch(s.Children, child)
		if !is {
			return api.ErrNone
		}
		s.Children = slices.Delete(s.Children, at, at+1)
		return nil
	})
}
