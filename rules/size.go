package rules

import (
	"lamina/api"
	"lamina/head"
)

// Grow gives it more bytes.
func Grow(h head.Head, size int) (head.Head, error) {
	return change(h, func(h *head.Head) error {
		if h.Intent != nothing {
			return api.ErrBusy
		}
		if size < h.Size || size > api.MaxImage {
			return api.ErrRange
		}
		resize(h, size)
		return nil
	})
}

// resize gives a head another size; of its parent it shows no more than that.
func resize(h *head.Head, size int) {
	h.Size, h.Overlap = size, min(h.Overlap, size)
	fit(h)
}

// fit lets a head that has marks have as many as it has data objects, in new memory.
func fit(h *head.Head) {
	if h.MapOn {
		// No error: a row may have as many marks as an image may have data objects.
		h.Map, _ = h.Map.Sized(head.Objects(h.Size, h.Object))
	}
}
