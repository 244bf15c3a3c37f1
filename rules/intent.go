package rules

import (
	"slices"

	"lamina/api"
	"lamina/head"
	"lamina/marks"
)

// Begin begins something.
func Begin(h head.Head, intent, to int) (head.Head, error) {
	return change(h, func(h *head.Head) error {
		if err := refusal(h, intent, to); err != nil {
			return err
		}
		h.Intent, h.To = intent, to
		return nil
	})
}

// refusal is why something isn't begun; nil, if it may be.
func refusal(h *head.Head, intent, to int) error {
	switch at := h.Number(to); {
	case h.Intent != nothing:
		return api.ErrBusy
	case intent < Resize || intent > Delete:
		return api.ErrRange
	case intent == Resize && (to < 0 || to > h.Size):
		return api.ErrRange
	case (intent == Rollback || intent == Remove) && at < 0:
		return api.ErrNone
	case intent == Remove && h.Snaps[at].Protected:
		return api.ErrProtected
	case (intent == Flatten || intent == Delete) && to != 0:
		return api.ErrRange
	case intent == Flatten && h.Parent == "":
		return api.ErrState
	case intent == Flatten && slices.ContainsFunc(h.Snaps, cloned):
		return api.ErrBusy
	case intent == Delete && len(h.Snaps) > 0:
		return api.ErrBusy
	}
	return nil
}

// cloned tells whether a snapshot has a parent.
func cloned(s head.Snap) bool { return s.Parent != "" }

// Finish ends what is being done.
func Finish(h head.Head) (head.Head, error) {
	return change(h, func(h *head.Head) error {
		switch h.Intent {
		case Resize:
			resize(h, h.To)
		case Rollback:
			bringBack(h, h.Snaps[h.Number(h.To)])
		case Remove:
			remove(h, h.Number(h.To))
		case Flatten:
			h.Link = head.Link{}
		default:
			return api.ErrState
		}
		h.Intent, h.To = nothing, 0
		return nil
	})
}

// bringBack gives a head what a snapshot of it says. What is there then may have changed since the newest snapshot, whatever it was marked.
func bringBack(h *head.Head, s head.Snap) {
	h.Size, h.Link = s.Size, s.Link
	if h.MapOn {
		h.Map = s.Map
	}
	h.MapGood = h.MapGood && s.MapGood
	fit(h)
	for i, mark := range h.Map {
		if mark == marks.Clean || mark == marks.Going {
			h.Map[i] = marks.There
		}
	}
}

// remove takes a snapshot from a head; what stands behind it takes over what its marks tell.
func remove(h *head.Head, at int) {
	next := ofHead(h)
	if at+1 < len(h.Snaps) {
		next = ofSnap(&h.Snaps[at+1])
	}
	next.follow(ofSnap(&h.Snaps[at]))
	h.Snaps = slices.Delete(h.Snaps, at, at+1)
}
