package head

import "lamina/api"

const (
	maxNamed = 20 // letters of a name of an image or a snapshot
	nobody   = -1 // who owns a lock that is free
)

// What may be being done with an image.
const (
	nothing = iota
	cutting
	bringingBack
	removing
	parting
	dropping
)

// Named tells whether a text is a name.
func Named(s string) bool {
	if len(s) < 1 || len(s) > maxNamed {
		return false
	}
	for _, c := range []byte(s) {
		if (c < 'a' || c > 'z') && (c < '0' || c > '9') && c != '-' {
			return false
		}
	}
	return true
}

// Good tells whether a head is one.
func Good(h Head) bool {
	return h.ID >= 0 && h.Seq >= 0 && isObject(h.Object) && h.view().good(h.Object) && h.snapsGood() &&
		h.Owner >= nobody && h.Owner < api.MaxClients && h.intentGood()
}

// isObject tells whether data objects may have so many bytes.
func isObject(size int) bool {
	switch size {
	case 16, 32, 64, 128, 256:
		return true
	}
	return false
}

// snapsGood tells whether the snapshots are such, and tell of each other.
func (h Head) snapsGood() bool {
	if len(h.Snaps) > api.MaxSnaps {
		return false
	}
	names := map[string]struct{}{}
	last := 0
	for _, s := range h.Snaps {
		if s.Num <= last || s.Num > h.Seq || !Named(s.Name) || !s.view().good(h.Object) || !s.childrenGood() {
			return false
		}
		last = s.Num
		names[s.Name] = struct{}{}
	}
	return len(names) == len(h.Snaps)
}

// childrenGood tells whether a snapshot's children are such as it may have.
func (s Snap) childrenGood() bool {
	last := ""
	for _, child := range s.Children {
		if !Named(child) || child <= last {
			return false
		}
		last = child
	}
	return s.Protected || len(s.Children) == 0
}

// intentGood tells whether what is being done may be done with that.
func (h Head) intentGood() bool {
	switch h.Intent {
	case nothing, parting, dropping:
		return h.To == 0
	case cutting:
		return h.To >= 0 && h.To <= api.MaxImage
	case bringingBack, removing:
		return h.Number(h.To) >= 0
	}
	return false
}
