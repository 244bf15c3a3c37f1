package rules

import (
	"lamina/api"
	"lamina/head"
)

// Acquire lets a client own it.
func Acquire(h head.Head, client int) (head.Head, error) {
	return change(h, func(h *head.Head) error {
		if client < 0 || client >= api.MaxClients {
			return api.ErrRange
		}
		if h.Owner != nobody && h.Owner != client {
			return api.ErrBusy
		}
		h.Owner = client
		return nil
	})
}

// Release lets nobody own it.
func Release(h head.Head, client int) (head.Head, error) {
	return change(h, func(h *head.Head) error {
		if !owned(h, client) {
			return api.ErrLock
		}
		if h.Intent != nothing {
			return api.ErrBusy
		}
		h.Owner = nobody
		return nil
	})
}

// Break lets nobody own it, whoever did.
func Break(h head.Head) (head.Head, int, error) {
	who := 0
	h, err := change(h, func(h *head.Head) error {
		if h.Owner == nobody {
			return api.ErrNone
		}
		who, h.Owner = h.Owner, nobody
		return nil
	})
	return h, who, err
}

// Owns asks whether a client owns it.
func Owns(h head.Head, client int) error {
	_, err := change(h, func(h *head.Head) error {
		if !owned(h, client) {
			return api.ErrLock
		}
		return nil
	})
	return err
}

// owned tells whether a client owns it. Nobody is no client, and doesn't own what is free.
func owned(h *head.Head, client int) bool { return client != nobody && h.Owner == client }
