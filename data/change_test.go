package data_test

import (
	"errors"
	"fmt"
	"math"
	"testing"

	"lamina/api"
	"lamina/data"
	"lamina/pool"
	"lamina/snap"
)

func write(at int, b string) data.Change {
	return data.Change{Kind: data.Write, At: at, Data: []byte(b)}
}
func zero(at, n int) data.Change { return data.Change{Kind: data.Zero, At: at, N: n} }
func cut(n int) data.Change      { return data.Change{Kind: data.Cut, N: n} }
func drop() data.Change          { return data.Change{Kind: data.Drop} }
func back(s int) data.Change     { return data.Change{Kind: data.Back, At: s} }
func trim(s int) data.Change     { return data.Change{Kind: data.Trim, At: s} }
func over(b string) data.Change  { return data.Change{Kind: data.Over, Data: []byte(b)} }

// changes are changes of all kinds, and of none, with arguments that are good and such as aren't.
func changes() []data.Change {
	list := []data.Change{
		write(0, "new"), write(2, "XYZ"), write(0, ""), write(9, ""), write(255, "l"), write(0, x(256)), write(256, ""), write(0, x(257)), write(255, "ll"), write(-1, "a"), write(math.MaxInt, "a"), write(math.MinInt, "a"),
		zero(0, 2), zero(1, 1), zero(0, 0), zero(300, 5), zero(1, math.MaxInt), zero(math.MaxInt, math.MaxInt), zero(-1, 1), zero(1, -1), zero(math.MinInt, 1),
		cut(0), cut(2), cut(4), cut(256), cut(257), cut(-1), cut(math.MaxInt), cut(math.MinInt), drop(),
		over("base"), over(""), over(x(256)), over(x(257)),
	}
	for _, s := range []int{-1, 0, 1, 2, 3, 4, 6, 9, 10, 16, 17, math.MaxInt, math.MinInt} {
		list = append(list, back(s), trim(s))
	}
	for _, kind := range []int{0, -1, 8, 9, 256 + 1, math.MaxInt, math.MinInt} {
		list = append(list, data.Change{Kind: kind, At: 1, N: 1, Data: []byte("a")})
	}
	// What a kind doesn't ask for is nothing to it.
	odd := []data.Change{
		{Kind: data.Write, N: -1, Data: []byte("a")}, {Kind: data.Zero, N: 2, Data: []byte(x(300))}, {Kind: data.Cut, At: -1, N: 2, Data: []byte(x(300))},
		{Kind: data.Drop, At: -1, N: -1, Data: []byte(x(300))}, {Kind: data.Back, At: 1, N: -1, Data: []byte(x(300))}, {Kind: data.Trim, At: 2, N: -1, Data: []byte(x(300))},
		{Kind: data.Over, At: -1, N: -1, Data: []byte("a")}, {Kind: data.Over, At: 100, N: 300, Data: []byte("a")},
	}
	return append(list, odd...)
}

// contexts are good and bad ones.
func contexts() []api.Context {
	return []api.Context{
		context(0), context(9), context(9, 9, 8, 6, 4, 1), context(10, 10, 9, 3, 2, 1), context(12, 12, 11, 10), context(16, 16, 15, 14), context(18, 18, 17), context(math.MaxInt, math.MaxInt, 1), context(3, 3, 2, 1), context(1, 1),
		context(-1), context(9, 1, 2), context(9, 10), context(9, 0), context(9, 3, 3), context(20, 20, 19, 18, 17, 16, 15, 14, 13, 12, 11, 10, 9, 8, 7, 6, 5, 4),
	}
}

// then is what a change makes of an object, as the chapter tells it, and whether anything is done at all.
func then(o snap.Object, c api.Context, x data.Change) (snap.Object, bool, error) {
	if (x.Kind == data.Zero || x.Kind == data.Cut) && !o.There || x.Kind == data.Over && o.There {
		return o, false, nil
	}
	next, err := snap.Object{}, error(api.ErrForm)
	switch x.Kind {
	case 1:
		next, err = snap.Write(o, c, x.At, x.Data)
	case 2:
		next, err = snap.Zero(o, c, x.At, x.N)
	case 3:
		next, err = snap.Cut(o, c, x.N)
	case 4:
		next, err = snap.Drop(o, c)
	case 5:
		next, err = snap.Back(o, c, x.At)
	case 6:
		next, err = snap.Trim(o, x.At)
	case 7:
		next, err = snap.Write(o, c, 0, x.Data)
	}
	return next, true, err
}

// P14.1: Do

func TestKinds(t *testing.T) {
	if data.Write != 1 || data.Zero != 2 || data.Cut != 3 || data.Drop != 4 || data.Back != 5 || data.Trim != 6 || data.Over != 7 {
		t.Error("the kinds have other numbers")
	}
}

// One row of changes, told by hand.
func TestRow(t *testing.T) {
	p, _ := roomy(t)
	for i, row := range []struct {
		c     api.Context
		x     data.Change
		asked snap.Object
	}{
		{context(0), over("base"), object("base", 0)},
		{context(0), over("other"), object("base", 0)},
		{context(1, 1), over("other"), object("base", 0)},
		{context(1, 1), write(2, "XYZ"), object("baXYZ", 1, clone("base", 1))},
		{context(1, 1), zero(0, 1), object("\x00aXYZ", 1, clone("base", 1))},
		{context(1, 1), cut(3), object("\x00aX", 1, clone("base", 1))},
		{context(3, 3, 2, 1), drop(), absent(3, clone("base", 1), clone("\x00aX", 2, 3))},
		{context(4, 4, 3, 2, 1), zero(0, 1), absent(3, clone("base", 1), clone("\x00aX", 2, 3))},
		{context(4, 4, 3, 2, 1), cut(1), absent(3, clone("base", 1), clone("\x00aX", 2, 3))},
		{context(4, 4, 3, 2, 1), back(2), object("\x00aX", 4, clone("base", 1), clone("\x00aX", 2, 3))},
		{context(0), trim(2), object("\x00aX", 4, clone("base", 1), clone("\x00aX", 3))},
		{context(4, 4, 3), trim(1), object("\x00aX", 4, clone("\x00aX", 3))},
		{context(4, 4, 3), back(4), absent(4, clone("\x00aX", 3))},
		{context(4, 4, 3), over("base"), object("base", 4, clone("\x00aX", 3))},
		{context(4, 4, 3), over(""), object("base", 4, clone("\x00aX", 3))},
		{context(4, 4, 3), trim(3), object("base", 4)},
		{context(4, 4), drop(), snap.Object{}},
		{context(2, 2), over(""), object("", 2)}, // dropped, it isn't known any more what it has seen
		{context(5, 5), back(5), object("", 5, clone("", 5))},
	} {
		must(t, data.Do(p, i%8, 7, 2, row.c, row.x))
		got, err := data.Get(p, 7, 2)
		is(t, fmt.Sprint("change ", i), got, err, row.asked, nil)
		if content, there := p.Look("d.7.2"); there == snap.Empty(row.asked) || there && string(content) != text(row.asked) {
			t.Errorf("change %d leaves %q, %v", i, content, there)
		}
		if names := p.Names(""); len(names) > 1 {
			t.Errorf("change %d leaves %q", i, names)
		}
	}
}

// All sorts of objects, contexts and changes: each does what layer 9 says, to this object alone, or nothing.
func TestEachChange(t *testing.T) {
	p, _ := fresh(t, 2000, 4000)
	lay(t, p, "d.7.3", "another one")
	errs := map[error]int{}
	for i, o := range goodOnes() {
		for _, c := range contexts() {
			for k, x := range changes() {
				for _, client := range []int{-1, 3} {
					what := fmt.Sprintf("client %d: object %d, %v, change %d: %d, %d, %d", client, i, c, k, x.Kind, x.At, x.N)
					lay(t, p, "d.7.2", text(o))
					err := data.Do(p, client, 7, 2, c, x)
					asked, changed, bad := then(o, c, x)
					errs[bad]++
					if bad != nil || !changed {
						asked = o
					}
					if want(t, what, err, bad); t.Failed() {
						t.FailNow()
					}
					content, there := p.Look("d.7.2")
					gone := snap.Empty(asked) && bad == nil && changed
					if there == gone || there && string(content) != text(asked) {
						t.Fatalf("%s leaves %q, %v; not %s", what, content, there, show(asked))
					}
				}
			}
		}
	}
	if content, _ := p.Look("d.7.3"); string(content) != "another one" || len(p.Names("")) > 2 {
		t.Error("another object is changed")
	}
	for _, err := range []error{nil, api.ErrRange, api.ErrForm} {
		if errs[err] < 500 {
			t.Errorf("%d changes answer %v: too few", errs[err], err)
		}
	}
}

// The same of an object that isn't there.
func TestEachChangeOfNothing(t *testing.T) {
	for _, c := range contexts() {
		for k, x := range changes() {
			p, d := fresh(t, 200, 100)
			done := d.Steps()
			asked, changed, bad := then(snap.Object{}, c, x)
			err := data.Do(p, k%9-1, 7, 2, c, x)
			want(t, fmt.Sprintf("%v, change %d", c, k), err, bad)
			content, there := p.Look("d.7.2")
			if made := bad == nil && changed && !snap.Empty(asked); there != made || made && string(content) != text(asked) {
				t.Errorf("%v, change %d leaves %q, %v; not %s", c, k, content, there, show(asked))
			} else if !made && (d.Steps() != done || p.Len() != 0) {
				t.Errorf("%v, change %d does something with the disk", c, k)
			}
		}
	}
}

// A change is one operation on the pool: made, written and cut, or dropped, if the client is allowed to.
func TestOneOperation(t *testing.T) {
	p, d := roomy(t)
	twin, _ := roomy(t)
	need := api.Step{Kind: api.NeedAllowed, At: 5}
	for i, row := range []struct {
		client int
		x      data.Change
		left   string // of the object; none: it is dropped
	}{
		{5, write(0, "head"), text(object("head", 0))}, {5, write(0, "head"), text(object("head", 0))}, {-1, cut(2), text(object("he", 0))}, {-1, write(250, "end"), text(object("he"+string(make([]byte, 248))+"end", 0))},
		{5, cut(1), text(object("h", 0))}, {5, drop(), ""}, {-1, over("o"), text(object("o", 0))}, {-1, drop(), ""},
	} {
		must(t, data.Do(p, row.client, 7, 2, context(0), row.x))
		steps := []api.Step{{Kind: api.Make}, {Kind: api.Write, Data: []byte(row.left)}, {Kind: api.Cut, At: len(row.left)}}
		if row.left == "" {
			steps = []api.Step{{Kind: api.Drop}}
		}
		if row.client == 5 {
			steps = append([]api.Step{need}, steps...)
		}
		_, err := twin.Do("d.7.2", steps...)
		must(t, err)
		if stored(p) != stored(twin) || p.Len() != i+1 || p.Len() != twin.Len() || p.Gen() != 1 || d.Waiting() != 0 {
			t.Errorf("change %d isn't one operation, or another one", i)
		}
	}
}

// Of a change that does nothing no more is asked than whether the client may.
func TestNothingChanges(t *testing.T) {
	p, d := roomy(t)
	lay(t, p, "d.7.1", text(absent(3, clone("was", 2))))
	lay(t, p, "d.7.2", text(object("head", 3, clone("was", 2))))
	before, done := stored(p), d.Steps()
	for _, c := range contexts() {
		for _, client := range []int{-1, 0, 7} {
			for index := range 2 { // object 0 isn't there
				for _, x := range []data.Change{zero(0, 5), zero(0, 0), cut(0), cut(3), cut(256)} {
					want(t, "a head that isn't there", data.Do(p, client, 7, index, c, x), nil)
				}
			}
			want(t, "Trim of what isn't there", data.Do(p, client, 7, 0, c, trim(2)), nil)
			want(t, "Over a head that is there", data.Do(p, client, 7, 2, c, over("else")), nil)
		}
	}
	for _, x := range []data.Change{trim(3), trim(1), trim(9), write(0, "head"), write(1, "e"), write(4, ""), zero(4, 9), cut(4), cut(9)} {
		want(t, "a change to what it is", data.Do(p, -1, 7, 2, context(3, 3), x), nil)
	}
	if stored(p) != before || d.Steps() != done || p.Len() != 2 {
		t.Error("what does nothing does something with the pool")
	}
	for _, client := range []int{8, 9, -2, math.MaxInt, math.MinInt} {
		for index, x := range []data.Change{zero(0, 5), cut(3), over("else")} {
			want(t, fmt.Sprint("client ", client), data.Do(p, client, 7, index, context(3), x), api.ErrRange)
		}
	}
	cutPower(t, p, d)
	for index, x := range []data.Change{zero(0, 5), cut(3), over("else")} {
		want(t, "a pool that is stuck", data.Do(p, 5, 7, index, context(3), x), api.ErrDown)
	}
}

// Attributes aren't a data object's: what it is changed to leaves them.
func TestAttributesStay(t *testing.T) {
	p, _ := roomy(t)
	lay(t, p, "d.7.2", text(object("head", 0)))
	_, err := p.Do("d.7.2", api.Step{Kind: api.SetAttr, Name: "k", Data: []byte("v")})
	must(t, err)
	must(t, data.Do(p, 1, 7, 2, context(0), cut(1)))
	if list := p.Store().Attrs("d.7.2"); len(list) != 1 || list[0].Name != "k" || string(list[0].Value) != "v" {
		t.Error(list)
	}
}

// The errors stand in one order: the object's, the change's, the pool's.
func TestOrderOfErrors(t *testing.T) {
	p, d := roomy(t)
	must(t, p.Block(3))
	lay(t, p, "d.7.0", "spoilt")
	lay(t, p, "d.7.2", text(object("head", 3, clone("was", 2))))
	before := stored(p)
	other := data.Change{Kind: 8, At: -1}
	for range 2 {
		for _, client := range []int{-1, 3, 1, 8, -2} {
			for _, x := range append(changes(), other) {
				want(t, "spoilt", data.Do(p, client, 7, 0, context(-1), x), api.ErrCorrupt)
			}
			want(t, "another kind", data.Do(p, client, 7, 2, context(-1), other), api.ErrForm)
			want(t, "another kind of nothing", data.Do(p, client, 7, 1, context(1, 2), other), api.ErrForm)
			for _, x := range []data.Change{write(0, "a"), zero(0, 1), cut(1), drop(), back(2)} {
				want(t, "a bad context", data.Do(p, client, 7, 2, context(-1), x), api.ErrRange)
				want(t, "a context of before", data.Do(p, client, 7, 2, context(2, 2), x), api.ErrRange)
			}
			for _, x := range []data.Change{write(-1, "a"), zero(-1, 1), cut(257), back(4), trim(0)} {
				want(t, "a bad change", data.Do(p, client, 7, 2, context(3, 3, 2), x), api.ErrRange)
			}
			want(t, "more than 256 bytes over nothing", data.Do(p, client, 7, 1, context(0), over(x(257))), api.ErrRange)
		}
		if stored(p) != before {
			t.Fatal("what is refused changes something")
		}
		cutPower(t, p, d) // nor does it hang on the power
	}
	for _, client := range []int{-1, 3, 1, 8, -2} {
		want(t, "stuck", data.Do(p, client, 7, 2, context(3), drop()), api.ErrDown)
		want(t, "stuck, of nothing", data.Do(p, client, 7, 1, context(3), over("")), api.ErrDown)
	}
	if stored(p) != before {
		t.Error("a pool that is stuck is changed")
	}
}

func TestClients(t *testing.T) {
	p, _ := roomy(t)
	for client := -1; client < 8; client++ {
		must(t, data.Do(p, client, 7, 2, context(0), write(client+1, "c")))
	}
	before := stored(p)
	for _, client := range []int{-2, 8, 9, 256, -256, math.MaxInt, math.MinInt} {
		for _, x := range []data.Change{write(0, "a"), zero(0, 1), cut(1), drop(), trim(1), over("a"), over(x(257))} {
			want(t, fmt.Sprint("client ", client), data.Do(p, client, 7, 2, context(1, 1), x), api.ErrRange)
		}
	}
	if stored(p) != before {
		t.Error("who is no client changes something")
	}
}

// Names of more than 32 signs are the pool's to refuse.
func TestLongNames(t *testing.T) {
	p, d := roomy(t)
	before, done := stored(p), d.Steps()
	for _, client := range []int{-1, 2} {
		want(t, "a long name", data.Do(p, client, math.MaxInt, math.MaxInt, context(0), write(0, "a")), api.ErrRange)
		want(t, "a long name", data.Do(p, client, math.MinInt, 1e11, context(0), over("")), api.ErrRange)
	}
	if stored(p) != before || d.Steps() != done {
		t.Error("what is refused changes something")
	}
	must(t, data.Do(p, 2, math.MinInt, 123456789, context(0), write(0, "a")))
	b, there, err := data.At(p, math.MinInt, 123456789, 0)
	if string(b) != "a" || !there || err != nil || len(p.Names("d.-9223372036854775808.123456789")) != 1 {
		t.Errorf("a name of 32 signs: %q, %v, %v", b, there, err)
	}
}

func TestNoRoom(t *testing.T) {
	p, d := fresh(t, 200, 3)
	must(t, data.Do(p, 2, 7, 2, context(0), write(0, x(7)))) // 32 bytes: two blocks
	before, done := stored(p), d.Steps()
	want(t, "no blocks for another one", data.Do(p, 2, 7, 3, context(0), write(0, x(7))), api.ErrFull)
	want(t, "no blocks for more of it", data.Do(p, -1, 7, 2, context(0), write(0, x(24))), api.ErrFull)
	want(t, "no blocks for a clone", data.Do(p, 2, 7, 2, context(1, 1), drop()), api.ErrFull)
	if stored(p) != before || d.Steps() != done {
		t.Error("what is refused changes something")
	}
	must(t, data.Do(p, 2, 7, 2, context(0), write(0, x(23))))
	must(t, data.Do(p, 2, 7, 2, context(0), drop()))
	must(t, data.Do(p, 2, 7, 3, context(0), write(0, x(7))))

	p, _ = fresh(t, 14, 1000) // there are blocks enough, but the log and the state have no room for them
	made, err := 0, error(nil)
	for ; err == nil && made < 100; made++ {
		before = stored(p)
		err = data.Do(p, 2, 7, made, context(0), write(0, x(100)))
	}
	if want(t, "no room on the disk", err, api.ErrFull); made < 2 || stored(p) != before || p.Stuck() {
		t.Errorf("behind %d objects there is no room, or what is refused changes something", made)
	}
}

// A change that is cut is wholly done, or not at all.
func TestCutChange(t *testing.T) {
	p, d := fresh(t, 60, 100)
	c := context(1, 1)
	for i, x := range []data.Change{over("base"), write(2, x(60)), cut(5), drop(), back(1), trim(1), drop(), write(0, x(200))} {
		o, err := data.Get(p, 7, 2)
		must(t, err)
		next, _, err := then(o, c, x)
		must(t, err)
		asked := map[bool]string{false: show(o), true: show(next)}
		if snap.Empty(next) {
			asked[true] = show(snap.Object{})
		}
		for arm := 0; ; arm++ {
			cutDisk := d.Copy()
			q, err := pool.Open(cutDisk)
			must(t, err)
			must(t, cutDisk.Arm(arm))
			if err = data.Do(q, 2, 7, 2, c, x); err == nil {
				break
			}
			if o, _ := data.Get(q, 7, 2); !errors.Is(err, api.ErrDown) || !q.Stuck() || show(o) != asked[false] {
				t.Fatalf("change %d, cut at step %d, answers %v, or is done", i, arm, err)
			}
			for _, kept := range []bool{false, true} {
				crashed := cutDisk.Copy()
				keep := make([]bool, crashed.Waiting())
				for n := range keep {
					keep[n] = kept || n%2 == 0
				}
				crashed.Crash(keep...)
				q, err := pool.Open(crashed)
				must(t, err)
				got, err := data.Get(q, 7, 2)
				if must(t, err); show(got) != asked[false] && show(got) != asked[true] {
					t.Errorf("change %d, cut at step %d, leaves %s", i, arm, show(got))
				}
			}
		}
		must(t, data.Do(p, 2, 7, 2, c, x))
		d.Crash()
		p, err = pool.Open(d)
		must(t, err)
		got, err := data.Get(p, 7, 2)
		if must(t, err); show(got) != asked[true] {
			t.Fatalf("change %d is answered, and leaves %s", i, show(got))
		}
	}
}

// P14.2: who is blocked changes nothing

func TestBlocked(t *testing.T) {
	for blocked := range 8 {
		p, d := roomy(t)
		for i, o := range goodOnes() {
			lay(t, p, data.Name(7, i), text(o))
		}
		must(t, p.Block(blocked))
		before, done := stored(p), d.Steps()
		for i := range len(goodOnes()) + 1 { // of the last one there is nothing
			o, err := data.Get(p, 7, i)
			must(t, err)
			for _, c := range contexts()[blocked : blocked+2] {
				for k, x := range changes() {
					_, _, asked := then(o, c, x)
					if asked == nil {
						asked = api.ErrBlocked
					}
					want(t, fmt.Sprintf("object %d, %v, change %d", i, c, k), data.Do(p, blocked, 7, i, c, x), asked)
				}
			}
		}
		if stored(p) != before || d.Steps() != done {
			t.Errorf("client %d is blocked, and changes something", blocked)
		}
		for client := -1; client < 8; client++ {
			if client != blocked {
				must(t, data.Do(p, client, 8, client, context(0), over("mine")))
			}
		}
	}
}
