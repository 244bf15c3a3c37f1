package image

import (
	"lamina/api"
	"lamina/head"
	"lamina/pool"
)

// nobody is the client of a change for which no client is needed.
const nobody = -1

// Save is what an image's header says from now on.
func Save(p *pool.Pool, client int, image string, h head.Head) error {
	if _, err := Load(p, image); err != nil {
		return err
	}
	text, err := head.Put(h)
	if err != nil {
		return err
	}
	return operate(p, client, Name(image), api.Step{Kind: api.Write, Data: text}, api.Step{Kind: api.Cut, At: len(text)})
}

// Change changes an image's head.
func Change(p *pool.Pool, client int, image string, do func(head.Head) (head.Head, error)) (head.Head, error) {
	h, err := Load(p, image)
	if err != nil {
		return head.Head{}, err
	}
	h, err = made(h, do)
	if err != nil {
		return head.Head{}, err
	}
	// What is done with the pool meanwhile is seen by Save, which reads the header once more.
	if err := Save(p, client, image, h); err != nil {
		return head.Head{}, err
	}
	// Whoever made the head may have kept it.
	return h.Copy(), nil
}

// made is what is made of a head: without anything that makes it, or with a panic, no head that is good.
func made(h head.Head, do func(head.Head) (head.Head, error)) (then head.Head, err error) {
	defer func() { _ = recover() }()
	return do(h)
}

// Create makes a header.
func Create(p *pool.Pool, client int, image string, h head.Head) error {
	if err := canAsk(p, image); err != nil {
		return err
	}
	text, err := head.Put(h)
	if err != nil {
		return err
	}
	if _, there := p.Look(Name(image)); there {
		return api.ErrExists
	}
	return operate(p, client, Name(image), api.Step{Kind: api.Make}, api.Step{Kind: api.Write, Data: text})
}

// Delete drops a header.
func Delete(p *pool.Pool, client int, image string) error {
	if _, err := header(p, image); err != nil {
		return err
	}
	return operate(p, client, Name(image), api.Step{Kind: api.Drop})
}

// operate does steps with an object of the pool, if the client is allowed to.
func operate(p *pool.Pool, client int, name string, steps ...api.Step) error {
	if client != nobody {
		steps = append([]api.Step{{Kind: api.NeedAllowed, At: client}}, steps...)
	}
	_, err := p.Do(name, steps...)
	return err
}
