package image_test

import (
	"errors"
	"fmt"
	"slices"
	"testing"

	"lamina/api"
	"lamina/disk"
	"lamina/head"
	"lamina/image"
	"lamina/pool"
	"lamina/rules"
)

// gives is a change to a head, whatever was there.
func gives(h head.Head) func(head.Head) (head.Head, error) {
	return func(head.Head) (head.Head, error) { return h, nil }
}

// fails is a change that answers an error, and a head beside it.
func fails(err error) func(head.Head) (head.Head, error) {
	return func(head.Head) (head.Head, error) { return plain(77), err }
}

// P15.1: Save and Change

// A head of any length over one of any other length: the header's bytes are just its text.
func TestSave(t *testing.T) {
	for _, client := range []int{-1, 0, 7} {
		for i, was := range goodOnes() {
			for k, h := range goodOnes() {
				p, _ := roomy(t)
				lay(t, p, "h.a", text(was))
				lay(t, p, "h.b", text(full()))
				what := fmt.Sprintf("client %d: head %d over head %d", client, k, i)
				want(t, what, image.Save(p, client, "a", h), nil)
				if b, _ := p.Look("h.a"); string(b) != text(h) {
					t.Errorf("%s leaves %q", what, b)
				}
				got, err := image.Change(p, client, "a", func(now head.Head) (head.Head, error) {
					is(t, what+": what is to be changed", now, nil, h, nil)
					return was, nil
				})
				is(t, what+", and back", got, err, was, nil)
				if b, _ := p.Look("h.a"); string(b) != text(was) || len(p.Names("")) != 2 {
					t.Errorf("%s, and back leaves %q", what, b)
				}
				loads(t, p, "b", full())
			}
		}
	}
}

func TestChangeAnswers(t *testing.T) {
	p, _ := roomy(t)
	must(t, image.Create(p, 0, "a", plain(3)))
	got, err := image.Change(p, 0, "a", func(h head.Head) (head.Head, error) { return rules.SnapMake(h, "s") })
	if err != nil || got.ID != 3 || len(got.Snaps) != 1 || got.Snaps[0].Name != "s" {
		t.Error(got, err)
	}
	loads(t, p, "a", got)
	times := 0
	next, err := image.Change(p, 0, "a", func(h head.Head) (head.Head, error) {
		times++
		h.Size = 17
		return h, nil
	})
	got.Size = 17
	if is(t, "the head then", next, err, got, nil); times != 1 {
		t.Errorf("it is changed %d times", times)
	}
	loads(t, p, "a", got)
}

// mine is an error that the program doesn't know.
type mine struct{ list []int }

func (mine) Error() string { return "mine" }

// What a change answers itself comes ahead of what the pool answers.
func TestChangeErrors(t *testing.T) {
	p, d := roomy(t)
	lay(t, p, "h.a", text(full()))
	must(t, p.Block(3))
	before, done := stored(p), d.Steps()
	for range 2 {
		for _, client := range []int{-1, 3, 1, 8, -2} {
			for _, err := range []error{api.ErrLock, api.ErrNone, api.ErrCorrupt, api.ErrState, api.Errno(99), api.Errno(0), errors.New("another one")} {
				got, bad := image.Change(p, client, "a", fails(err))
				is(t, fmt.Sprint("client ", client), got, bad, head.Head{}, err)
			}
			got, bad := image.Change(p, client, "a", fails(mine{[]int{5}}))
			var m mine
			if !errors.As(bad, &m) || len(m.list) != 1 || !head.Same(got, head.Head{}) {
				t.Error(got, bad)
			}
			for i, h := range badOnes() {
				got, bad = image.Change(p, client, "a", gives(h))
				is(t, fmt.Sprint("bad head ", i), got, bad, head.Head{}, api.ErrForm)
				want(t, fmt.Sprint("Save of bad head ", i), image.Save(p, client, "a", h), api.ErrForm)
				want(t, fmt.Sprint("Create of bad head ", i), image.Create(p, client, "a", h), api.ErrForm)
			}
			want(t, "Create", image.Create(p, client, "a", full()), api.ErrExists)
		}
		if stored(p) != before || d.Steps() != done {
			t.Fatal("what is refused does something with the pool")
		}
		cutPower(t, p, d) // nor does it hang on the power
		before, done = stored(p), d.Steps()
	}
	for _, client := range []int{-1, 3, 1, 8, -2} {
		stuck(t, p, client)
	}
	if stored(p) != before || d.Steps() != done {
		t.Error("a pool that is stuck is changed")
	}
}

// stuck holds all calls on a pool that is stuck against its error; the pool has an image a, and no b.
func stuck(t *testing.T, p *pool.Pool, client int) {
	t.Helper()
	want(t, "Save", image.Save(p, client, "a", full()), api.ErrDown)
	got, err := image.Change(p, client, "a", same)
	is(t, "Change", got, err, head.Head{}, api.ErrDown)
	want(t, "Create", image.Create(p, client, "b", full()), api.ErrDown)
	want(t, "Delete", image.Delete(p, client, "a"), api.ErrDown)
	if n, err := image.Number(p, client); n != 0 || !errors.Is(err, api.ErrDown) {
		t.Error(n, err)
	}
}

// A change that isn't there, or panics, makes no good head.
func TestNoChange(t *testing.T) {
	p, d := roomy(t)
	lay(t, p, "h.a", text(full()))
	before, done := stored(p), d.Steps()
	for i, do := range []func(head.Head) (head.Head, error){
		nil,
		func(h head.Head) (head.Head, error) { panic("a change") },
		func(h head.Head) (head.Head, error) { return head.Head{ID: h.Snaps[len(h.Snaps)].Num}, nil },
		func(h head.Head) (head.Head, error) { panic(api.ErrLock) },
	} {
		for _, client := range clients() {
			got, err := image.Change(p, client, "a", do)
			is(t, fmt.Sprint("change ", i), got, err, head.Head{}, api.ErrForm)
		}
	}
	if stored(p) != before || d.Steps() != done {
		t.Error("something is done")
	}
}

// What a change does with the pool itself is done; what the header says then is what is saved over.
func TestChangeOfThePool(t *testing.T) {
	for i, row := range []struct {
		do    func(p *pool.Pool) error
		asked error
	}{
		{func(p *pool.Pool) error { return image.Save(p, -1, "a", plain(5)) }, nil},
		{func(p *pool.Pool) error {
			return errors.Join(image.Delete(p, -1, "a"), image.Create(p, -1, "a", plain(5)))
		}, nil},
		{func(p *pool.Pool) error { return image.Create(p, -1, "b", plain(5)) }, nil},
		{func(p *pool.Pool) error { return image.Delete(p, -1, "a") }, api.ErrNone},
		{func(p *pool.Pool) error { return errors.Join(image.Delete(p, -1, "a"), p.Block(1)) }, api.ErrNone},
		{func(p *pool.Pool) error { _, err := p.Do("h.a", api.Step{Kind: api.Cut, At: 3}); return err }, api.ErrCorrupt},
		{func(p *pool.Pool) error { return p.Block(1) }, api.ErrBlocked},
	} {
		p, _ := roomy(t)
		must(t, image.Create(p, 1, "a", full()))
		before, asked := "", plain(6)
		got, err := image.Change(p, 1, "a", func(h head.Head) (head.Head, error) {
			is(t, "what is to be changed", h, nil, full(), nil)
			must(t, row.do(p))
			before = stored(p)
			return plain(6), nil
		})
		if row.asked != nil {
			asked = head.Head{}
		}
		is(t, fmt.Sprint("row ", i), got, err, asked, row.asked)
		if row.asked == nil {
			loads(t, p, "a", plain(6))
		} else if stored(p) != before {
			t.Errorf("row %d: what is refused changes something", i)
		}
	}
}

// P15.1: Create and Delete

func TestCreate(t *testing.T) {
	p, _ := roomy(t)
	for i, name := range names() {
		h := goodOnes()[i%5]
		must(t, image.Create(p, i%9-1, name, h))
		if b, _ := p.Look("h." + name); string(b) != text(h) {
			t.Errorf("%s: %q", name, b)
		}
		if l := image.List(p); !slices.Equal(l, names()[:i+1]) {
			t.Errorf("%q", l)
		}
		want(t, "Create once more", image.Create(p, 1, name, plain(4)), api.ErrExists)
		loads(t, p, name, h)
	}
	for i, name := range names() {
		must(t, image.Delete(p, i%9-1, name))
		if _, there := p.Look("h." + name); there {
			t.Errorf("%s is there still", name)
		}
		if l := image.List(p); !slices.Equal(l, names()[i+1:]) {
			t.Errorf("%q", l)
		}
		want(t, "Delete once more", image.Delete(p, 1, name), api.ErrNone)
	}
	if l := p.Names(""); len(l) != 0 {
		t.Errorf("%q are left", l)
	}
}

// Each change is one operation on the pool.
func TestOneOperation(t *testing.T) {
	p, d := roomy(t)
	twin, _ := roomy(t)
	write := func(h head.Head) api.Step { return api.Step{Kind: api.Write, Data: []byte(text(h))} }
	cut := func(h head.Head) api.Step { return api.Step{Kind: api.Cut, At: len(text(h))} }
	for i, row := range []struct {
		name  string
		do    func(client int) error
		steps []api.Step
	}{
		{"h.a", func(c int) error { return image.Create(p, c, "a", full()) }, []api.Step{{Kind: api.Make}, write(full())}},
		{"h.a", func(c int) error { return image.Save(p, c, "a", plain(1)) }, []api.Step{write(plain(1)), cut(plain(1))}},
		{"h.a", func(c int) error { return image.Save(p, c, "a", plain(1)) }, []api.Step{write(plain(1)), cut(plain(1))}},
		{"h.a", func(c int) error { _, err := image.Change(p, c, "a", gives(full())); return err }, []api.Step{write(full()), cut(full())}},
		{"h.a", func(c int) error { _, err := image.Change(p, c, "a", same); return err }, []api.Step{write(full()), cut(full())}},
		{"next", func(c int) error { _, err := image.Number(p, c); return err }, []api.Step{{Kind: api.Make}, {Kind: api.Write, Data: []byte(num(1))}}},
		{"next", func(c int) error { _, err := image.Number(p, c); return err }, []api.Step{{Kind: api.Make}, {Kind: api.Write, Data: []byte(num(2))}}},
		{"h.a", func(c int) error { return image.Delete(p, c, "a") }, []api.Step{{Kind: api.Drop}}},
	} {
		client := i%3 - 1
		must(t, row.do(client))
		if client >= 0 {
			row.steps = append([]api.Step{{Kind: api.NeedAllowed, At: client}}, row.steps...)
		}
		_, err := twin.Do(row.name, row.steps...)
		must(t, err)
		if stored(p) != stored(twin) || p.Len() != i+1 || p.Len() != twin.Len() || p.Gen() != 1 || d.Waiting() != 0 {
			t.Errorf("row %d isn't one operation, or another one", i)
		}
	}
}

// Who is no client is refused; who is blocked changes nothing.
func TestClients(t *testing.T) {
	for blocked := range 8 {
		p, d := roomy(t)
		must(t, image.Create(p, blocked, "a", full()))
		_, err := image.Number(p, blocked)
		must(t, err)
		must(t, p.Block(blocked))
		before, done := stored(p), d.Steps()
		for _, client := range append(clients()[3:], blocked) {
			asked := error(api.ErrRange)
			if client == blocked {
				asked = api.ErrBlocked
			}
			what := fmt.Sprint("client ", client)
			want(t, what, image.Save(p, client, "a", full()), asked)
			want(t, what, image.Save(p, client, "a", plain(1)), asked)
			for _, h := range []head.Head{full(), plain(1)} {
				got, err := image.Change(p, client, "a", gives(h))
				is(t, what, got, err, head.Head{}, asked)
			}
			want(t, what, image.Create(p, client, "b", full()), asked)
			want(t, what, image.Delete(p, client, "a"), asked)
			if n, err := image.Number(p, client); n != 0 || !errors.Is(err, asked) {
				t.Error(what, n, err)
			}
		}
		if stored(p) != before || d.Steps() != done {
			t.Errorf("client %d is blocked, and changes something", blocked)
		}
		for client := -1; client < 8; client++ {
			if client == blocked {
				continue
			}
			must(t, image.Save(p, client, "a", plain(client+1)))
			must(t, image.Create(p, client, "b", full()))
			must(t, image.Delete(p, client, "b"))
		}
	}
}

// What has no room in the pool is the pool's error, and changes nothing.
func TestFull(t *testing.T) {
	small := len(text(plain(1)))/16 + 1
	p, _ := fresh(t, 300, small)
	must(t, image.Create(p, 1, "a", plain(1)))
	before := stored(p)
	want(t, "Save", image.Save(p, 1, "a", full()), api.ErrFull)
	got, err := image.Change(p, 1, "a", gives(full()))
	is(t, "Change", got, err, head.Head{}, api.ErrFull)
	want(t, "Create", image.Create(p, 1, "b", plain(1)), api.ErrFull)
	if n, err := image.Number(p, 1); n != 0 || !errors.Is(err, api.ErrFull) {
		t.Error(n, err)
	}
	if stored(p) != before {
		t.Error("what has no room changes something")
	}
	long := full()
	for i := range 5000 {
		long.Snaps[1].Children = append(long.Snaps[1].Children, fmt.Sprintf("z-%08d", i))
	}
	if !head.Good(long) {
		t.Fatal("no good head")
	}
	want(t, "more than 2^16 bytes", image.Save(p, 1, "a", long), api.ErrRange)
	want(t, "more than 2^16 bytes", image.Create(p, 1, "b", long), api.ErrRange)
	if stored(p) != before {
		t.Error("what has no room changes something")
	}
}

// P2: whenever the power goes in a change, it is done, or not; what was answered is there.
func TestCrashes(t *testing.T) {
	calls := []func(p *pool.Pool) error{
		func(p *pool.Pool) error { return image.Create(p, 1, "a", plain(3)) },
		func(p *pool.Pool) error { _, err := image.Number(p, 1); return err },
		func(p *pool.Pool) error { return image.Save(p, 1, "a", full()) },
		func(p *pool.Pool) error { _, err := image.Number(p, -1); return err },
		func(p *pool.Pool) error { _, err := image.Change(p, 2, "a", gives(plain(8))); return err },
		func(p *pool.Pool) error { return image.Delete(p, 1, "a") },
	}
	p, d := fresh(t, 60, 100)
	for i, call := range calls {
		before, start, cut := stored(p), d.Copy(), 0
		must(t, call(p))
		for step := range 40 {
			for _, keep := range [][]bool{nil, {true}, {false, true}, {true, true, true, true, true, true, true, true}} {
				if left, err := cutOff(t, start, call, step, keep); err == nil && left != stored(p) || err != nil && left != before && left != stored(p) {
					t.Fatalf("call %d, cut at step %d, answers %v, and leaves %q", i, step, err, left)
				} else if err != nil {
					cut++
				}
			}
		}
		if cut < 12 {
			t.Errorf("call %d is cut %d times: too few", i, cut)
		}
	}
}

// cutOff is what a call leaves in a pool, if the power goes at one of its steps, and its error.
func cutOff(t *testing.T, start *disk.Disk, call func(p *pool.Pool) error, step int, keep []bool) (string, error) {
	t.Helper()
	d := start.Copy()
	p, err := pool.Open(d)
	must(t, err)
	must(t, d.Arm(step))
	answer := call(p)
	d.Crash(keep...)
	p, err = pool.Open(d)
	must(t, err)
	return stored(p), answer
}
