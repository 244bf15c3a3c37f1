package pool_test

import (
	"bytes"
	"errors"
	"math"
	"slices"
	"strings"
	"testing"

	"lamina/api"
	"lamina/box"
	"lamina/disk"
	"lamina/journal"
	"lamina/pool"
	"lamina/store"
)

// Steps of operations.

func create() api.Step { return api.Step{Kind: api.Make} }
func drop() api.Step   { return api.Step{Kind: api.Drop} }
func write(at int, b string) api.Step {
	return api.Step{Kind: api.Write, At: at, Data: []byte(b)}
}
func setAttr(n, v string) api.Step { return api.Step{Kind: api.SetAttr, Name: n, Data: []byte(v)} }
func read(at, n int) api.Step      { return api.Step{Kind: api.Read, At: at, Len: n} }
func getAttr(n string) api.Step    { return api.Step{Kind: api.GetAttr, Name: n} }
func kind(k int) api.Step          { return api.Step{Kind: k} }
func allowed(client int) api.Step  { return api.Step{Kind: api.NeedAllowed, At: client} }

// steps is the steps of an operation.
func steps(l ...api.Step) []api.Step { return l }

func x(n int) string { return strings.Repeat("x", n) }

func must(t *testing.T, err error) {
	t.Helper()
	if err != nil {
		t.Fatal(err)
	}
}

func want(t *testing.T, what string, got, asked error) {
	t.Helper()
	if !errors.Is(got, asked) {
		t.Errorf("%s: %v, not %v", what, got, asked)
	}
}

func newDisk(t *testing.T, sectors int) *disk.Disk {
	t.Helper()
	d, err := disk.New(sectors)
	must(t, err)
	return d
}

// format is the pool of a fresh disk, or the end of the test.
func format(t *testing.T, d *disk.Disk, blocks int) *pool.Pool {
	t.Helper()
	p, err := pool.Format(d, blocks)
	if err != nil || p == nil {
		t.Fatalf("Format: %v, %v", p, err)
	}
	return p
}

// open is the pool of a disk, or the end of the test.
func open(t *testing.T, d *disk.Disk) *pool.Pool {
	t.Helper()
	p, err := pool.Open(d)
	if err != nil || p == nil {
		t.Fatalf("Open: %v, %v", p, err)
	}
	return p
}

// cutPower lets the power of a disk go.
func cutPower(t *testing.T, d *disk.Disk) {
	t.Helper()
	must(t, d.Arm(0))
	if d.Flush() == nil || !d.Down() {
		t.Fatal("the power doesn't go")
	}
}

// does is an operation that is done, and tells this.
func does(t *testing.T, p *pool.Pool, name string, list []api.Step, told ...string) {
	t.Helper()
	got, err := p.Do(name, list...)
	if err != nil || !slices.Equal(texts(got), told) {
		t.Errorf("Do(%q, %v): %q, %v; not %q", name, kinds(list), texts(got), err, told)
	}
}

func kinds(list []api.Step) []int {
	var l []int
	for _, s := range list {
		l = append(l, s.Kind)
	}
	return l
}

// refuses is an operation that isn't done, with which nothing is done at all, on the disk neither.
func refuses(t *testing.T, p *pool.Pool, d *disk.Disk, asked error, name string, list ...api.Step) {
	t.Helper()
	before, done, waiting := looks(p), d.Steps(), d.Waiting()
	told, err := p.Do(name, list...)
	if want(t, "Do", err, asked); told != nil || looks(p) != before || d.Steps() != done || d.Waiting() != waiting {
		t.Errorf("Do(%q, %v) is refused, tells %q, and changes something", name, kinds(list), told)
	}
}

// seen is all that a pool shows.
type seen struct {
	store    string
	gen, len int
	stuck    bool
}

func looks(p *pool.Pool) seen {
	return seen{string(p.Store().Put()), p.Gen(), p.Len(), p.Stuck()}
}

func texts(list [][]byte) []string {
	var l []string
	for _, b := range list {
		l = append(l, string(b))
	}
	return l
}

// noted is the transactions that stand on a disk.
func noted(t *testing.T, d *disk.Disk) []string {
	t.Helper()
	j, err := journal.Open(d)
	must(t, err)
	var l []string
	for _, tx := range j.Txs() {
		l = append(l, string(tx))
	}
	return l
}

// num is a number's eight bytes.
func num(n int) string {
	var b []byte
	for i := range 8 {
		b = append(b, byte(uint64(n)>>(8*i)))
	}
	return string(b)
}

// counted is bytes behind their count.
func counted(b string) string { return num(len(b)) + b }

// stepText is a step's part of a transaction's text.
func stepText(s api.Step) string {
	return num(s.Kind) + num(s.At) + num(s.Len) + counted(s.Name) + counted(string(s.Data))
}

// doText is an operation's text.
func doText(name string, list ...api.Step) string {
	text := "\x01" + counted(name) + num(len(list))
	for _, s := range list {
		text += stepText(s)
	}
	return text
}

// blockText is the text of a client that is blocked.
func blockText(client int) string { return "\x02" + num(client) }

// newText is the text of the store that there is on a fresh disk.
func newText(t *testing.T, blocks int) string {
	t.Helper()
	s, err := store.New(blocks)
	must(t, err)
	return string(s.Put())
}

// P8.1: Format

func TestFormat(t *testing.T) {
	for _, blocks := range []int{0, 1, 100, 1 << 16} {
		for _, sectors := range []int{8, 9, 60, 4096} {
			d := newDisk(t, sectors)
			p := format(t, d, blocks)
			if looks(p) != (seen{newText(t, blocks), 1, 0, false}) || p.Store().Free() != blocks || len(p.Names("")) > 0 {
				t.Errorf("Format of %d blocks on %d sectors: %v", blocks, sectors, looks(p))
			}
			j, err := journal.Open(d)
			if err != nil || string(j.State()) != newText(t, blocks) || j.Len() != 0 || j.Gen() != 1 || d.Steps() != 7 {
				t.Errorf("Format of %d blocks on %d sectors leaves another journal, behind %d steps: %v", blocks, sectors, d.Steps(), err)
			}
		}
	}
}

func TestFormatErrors(t *testing.T) {
	for _, blocks := range []int{-1, 1<<16 + 1, math.MinInt, math.MaxInt} {
		d := newDisk(t, 20)
		for _, down := range []bool{false, true} {
			if down {
				cutPower(t, d)
			}
			p, err := pool.Format(d, blocks)
			if want(t, "Format", err, api.ErrRange); p != nil || d.Steps() != 0 || d.Waiting() != 0 {
				t.Errorf("Format of %d blocks: a pool, or steps", blocks)
			}
		}
	}
	for n := 1; n < 8; n++ {
		d := newDisk(t, n)
		p, err := pool.Format(d, 1)
		if want(t, "Format of a small disk", err, api.ErrRange); p != nil || d.Steps() != 0 {
			t.Errorf("Format of %d sectors: a pool, or steps", n)
		}
	}
	for _, blocks := range []int{1, -1} {
		p, err := pool.Format(nil, blocks)
		if want(t, "Format of no disk", err, api.ErrRange); p != nil {
			t.Error("Format of no disk: a pool")
		}
	}
	for arm := range 7 {
		d := newDisk(t, 8)
		must(t, d.Arm(arm))
		p, err := pool.Format(d, 1)
		if want(t, "Format that is cut", err, api.ErrDown); p != nil || d.Steps() != arm {
			t.Errorf("Format that is cut at step %d: a pool, or %d steps", arm, d.Steps())
		}
	}
}

// A disk is formatted again: what was there is there no more. (Noted was nothing: the log is left as it is.)
func TestFormatAgain(t *testing.T) {
	d := newDisk(t, 60)
	p := format(t, d, 10)
	for range 9 {
		_, err := p.Do("a", create(), write(0, x(5000)))
		want(t, "Do", err, api.ErrFull)
	}
	for _, q := range []*pool.Pool{format(t, d, 7), open(t, d)} {
		if looks(q) != (seen{newText(t, 7), 1, 0, false}) {
			t.Errorf("formatted again it is %v", looks(q))
		}
	}
}

// P8.1: Open

func TestOpen(t *testing.T) {
	d := newDisk(t, 60)
	p := format(t, d, 10)
	check := func(what string) {
		t.Helper()
		done := d.Steps()
		for range 2 {
			if q := open(t, d); looks(q) != looks(p) || d.Steps() != done || d.Waiting() != 0 {
				t.Errorf("%s: opened it is %v, not %v, behind %d steps more", what, looks(q), looks(p), d.Steps()-done)
			}
		}
	}
	check("fresh")
	does(t, p, "a", steps(create(), write(3, "abc"), setAttr("k", "v"), read(0, 4), getAttr("k")), "\x00\x00\x00a", "v")
	check("behind an operation")
	must(t, p.Block(7))
	check("behind a client that is blocked")
	does(t, p, "b", steps(create(), allowed(6), write(0, x(40))))
	does(t, p, "a", steps(api.Step{Kind: api.NeedAttr, Name: "k", Data: []byte("v")}, drop()))
	check("behind several")
	for n := range 30 {
		does(t, p, "c", steps(create(), write(n, "y")))
		check("behind many")
	}
	if p.Gen() < 2 {
		t.Error("nothing was checkpointed")
	}
}

func TestOpenErrors(t *testing.T) {
	for n := 1; n < 8; n++ {
		d := newDisk(t, n)
		for _, down := range []bool{false, true} {
			if down {
				cutPower(t, d)
			}
			opens(t, "a small disk", d, api.ErrRange)
		}
	}
	opens(t, "no disk", nil, api.ErrRange)
	d := newDisk(t, 20)
	opens(t, "noughts", d, api.ErrCorrupt)
	p := format(t, d, 5)
	cutPower(t, d)
	opens(t, "a pool without power", d, api.ErrDown)
	d.Crash()
	if looks(open(t, d)) != looks(p) {
		t.Error("with power again it is another one")
	}
}

// opens is a disk that isn't opened, and on which nothing is done.
func opens(t *testing.T, what string, d *disk.Disk, asked error) {
	t.Helper()
	done := d.Steps()
	p, err := pool.Open(d)
	if want(t, "Open of "+what, err, asked); p != nil || d.Steps() != done {
		t.Errorf("Open of %s: a pool, or steps", what)
	}
}

// stands is a disk with this state, and these transactions behind it.
func stands(t *testing.T, state string, txs ...string) *disk.Disk {
	t.Helper()
	d := newDisk(t, 400)
	j, err := journal.Format(d, []byte(state))
	must(t, err)
	for _, tx := range txs {
		must(t, j.Append([]byte(tx)))
	}
	return d
}

func TestOpenState(t *testing.T) {
	s, err := store.New(9)
	must(t, err)
	_, err = s.Do("a", create(), write(0, x(50)))
	must(t, err)
	text := string(s.Put())
	if p := open(t, stands(t, text)); looks(p) != (seen{text, 1, 0, false}) {
		t.Errorf("a state of another hand: %v", looks(p))
	}
	for n := range len(text) {
		opens(t, "a state without its end", stands(t, text[:n]), api.ErrCorrupt)
	}
	for _, bad := range []string{text + "\x00", text + text, num(9), num(-1) + text[8:], num(3) + text[8:], num(9) + "\x02" + text[9:]} {
		opens(t, "a state that is none", stands(t, bad), api.ErrCorrupt)
		opens(t, "a state that is none, with transactions", stands(t, bad, doText("a", create())), api.ErrCorrupt)
	}
}

// goodTexts is texts of transactions, each of which can be done behind those ahead of it.
func goodTexts() []string {
	return []string{
		doText("a", create()),
		doText("a", write(0, "abc"), setAttr("k", "v")),
		doText("b", api.Step{Kind: api.Make, At: -1, Len: math.MinInt, Name: "no name", Data: []byte("nothing")}, write(4, "")),
		blockText(0),
		blockText(7),
		blockText(0),
		doText("a", read(0, 5), getAttr("k")),
		doText("c", kind(api.NeedAbsent)),
		doText("a", allowed(1), drop(), drop()),
		doText("~", slices.Repeat(steps(create()), 16)...),
	}
}

func TestOpenTexts(t *testing.T) {
	p := open(t, stands(t, newText(t, 4), goodTexts()...))
	if !slices.Equal(p.Names(""), []string{"b", "~"}) || p.Len() != 10 || !p.Store().Blocked(0) || !p.Store().Blocked(7) || p.Store().Blocked(1) {
		t.Errorf("transactions of another hand: %q", p.Names(""))
	}
	for _, name := range []string{"b", "~"} {
		if b, ok := p.Look(name); !ok || len(b) != 0 {
			t.Errorf("%s: %q, %v", name, b, ok)
		}
	}
}

// bads is transactions behind which nothing is opened, wherever they stand.
func bads(t *testing.T, what string, bad string) {
	t.Helper()
	opens(t, what, stands(t, newText(t, 4), bad), api.ErrCorrupt)
	opens(t, what+" ahead of others", stands(t, newText(t, 4), bad, doText("a", create())), api.ErrCorrupt)
	opens(t, what+" behind others", stands(t, newText(t, 4), doText("a", create()), blockText(2), bad), api.ErrCorrupt)
}

func TestOpenOddTexts(t *testing.T) {
	for _, text := range []string{doText("a", create(), setAttr("k", "v"), write(2, "abc")), blockText(3)} {
		for n := 1; n < len(text); n++ {
			bads(t, "a text without its end", text[:n])
		}
		bads(t, "a text with more behind it", text+"\x00")
		bads(t, "a text twice", text+text)
		for _, first := range []string{"\x00", "\x03", "\x81", "\xff"} {
			bads(t, "a text of no kind", first+text[1:])
		}
	}
	bads(t, "a client's text as an operation's", "\x01"+num(3))
	bads(t, "an operation's text as a client's", "\x02"+doText("a", create())[1:])
	// Counts that aren't the steps'.
	body := stepText(create())
	for _, n := range []int{0, 2, -1, 1 << 62, math.MaxInt, math.MinInt} {
		bads(t, "a count of other steps", "\x01"+counted("a")+num(n)+body)
		bads(t, "a count without steps", "\x01"+counted("a")+num(n))
	}
	for _, n := range []int{-1, 1, 2, 1 << 40, math.MaxInt, math.MinInt} {
		bads(t, "a count of other bytes of a name", "\x01"+num(n)+num(1)+body)
		bads(t, "a count of other bytes of a step", "\x01"+counted("a")+num(1)+body[:32]+num(n))
	}
	bads(t, "a count with more steps behind it", "\x01"+counted("a")+num(1)+body+body)
}

// A text can be right, and the store does it with an error.
func TestOpenRefusedTexts(t *testing.T) {
	for _, text := range []string{
		doText("", create()),
		doText("no name", create()),
		doText(x(33), create()),
		doText("a"),
		doText("a", slices.Repeat(steps(create()), 17)...),
		doText("a", kind(0)),
		doText("a", create(), kind(15)),
		doText("a", create(), kind(api.NeedAbsent)),
		doText("none", kind(api.NeedThere)),
		doText("none", read(0, 1)),
		doText("none", write(0, "x")),
		doText("a", create(), write(-1, "x")),
		doText("a", create(), write(0, x(65))), // five blocks, where there are four
		doText("a", create(), setAttr("", "v")),
		doText("a", create(), getAttr("none")),
		doText("a", allowed(8), create()),
		blockText(8),
		blockText(-1),
		blockText(math.MaxInt),
		blockText(math.MinInt),
	} {
		bads(t, "a text that the store refuses", text)
	}
	opens(t, "a blocked client's text", stands(t, newText(t, 4), blockText(3), doText("a", allowed(3), create())), api.ErrCorrupt)
	open(t, stands(t, newText(t, 4), doText("a", allowed(3), create()), blockText(3)))
}

// A transaction may have no bytes, though it can't be appended: such a one is no text.
func TestOpenEmptyText(t *testing.T) {
	d := stands(t, newText(t, 4))
	log := 2 + 2*(398/3)
	for k, b := range []box.Box{{Kind: 3, Gen: 1}, {Kind: 4, Gen: 1, Number: 1, Data: []byte(num(1))}} {
		s, err := box.Seal(b)
		must(t, err)
		must(t, d.Write(log+k, s))
	}
	must(t, d.Flush())
	if len(noted(t, d)) != 1 {
		t.Fatal("there is no transaction")
	}
	opens(t, "an empty text", d, api.ErrCorrupt)
}

// P8.1: Do and Block

func TestDoNotes(t *testing.T) {
	d := newDisk(t, 200)
	p := format(t, d, 100)
	var texts []string
	add := func(text string) {
		t.Helper()
		texts = append(texts, text)
		if got := noted(t, d); !slices.Equal(got, texts) || p.Len() != len(texts) || d.Waiting() != 0 || p.Gen() != 1 {
			t.Fatalf("noted is %q, not %q", got, texts)
		}
	}
	list := steps(kind(api.NeedAbsent), create(), write(2, "abc"), setAttr("k", "v"), read(1, 2))
	does(t, p, "a", list, "\x00a")
	add(doText("a", list...))
	odd := steps(api.Step{Kind: api.Make, At: -7, Len: math.MinInt, Name: " \x00é", Data: []byte(x(300))})
	does(t, p, "b", odd)
	add(doText("b", odd...))
	must(t, p.Block(5))
	add(blockText(5))
	must(t, p.Block(5)) // once more: it is noted, too
	add(blockText(5))
	must(t, p.Block(0))
	add(blockText(0))
	does(t, p, "a", slices.Repeat(steps(create()), 16))
	add(doText("a", slices.Repeat(steps(create()), 16)...))
}

// Each kind that changes is noted, whether there is anything to be changed or not; the others aren't.
func TestDoWhatChanges(t *testing.T) {
	d := newDisk(t, 400)
	p := format(t, d, 100)
	does(t, p, "a", steps(create(), write(0, "abc"), setAttr("k", "v")))
	for _, s := range []api.Step{create(), write(1, ""), write(1, "b"), {Kind: api.Zero, At: 9}, {Kind: api.Cut, At: 3}, setAttr("k", "v"), {Kind: api.DropAttr, Name: "none"}} {
		before := looks(p)
		does(t, p, "a", steps(s))
		before.len++
		if looks(p) != before || len(noted(t, d)) != before.len {
			t.Errorf("a step of kind %d: %v, not %v", s.Kind, looks(p), before)
		}
		does(t, p, "a", steps(read(0, 0), s, read(0, 0)), "", "")
		if before.len++; looks(p) != before {
			t.Errorf("a step of kind %d between others: %v, not %v", s.Kind, looks(p), before)
		}
	}
	does(t, p, "none", steps(drop()))
	if len(noted(t, d)) != 16 || len(p.Names("none")) > 0 {
		t.Errorf("%d transactions are noted", len(noted(t, d)))
	}
}

func TestDoWithoutChange(t *testing.T) {
	d := newDisk(t, 60)
	p := format(t, d, 100)
	does(t, p, "a", steps(create(), write(0, "abc"), setAttr("k", "v")))
	before := looks(p)
	done := d.Steps()
	reads := func() {
		t.Helper()
		does(t, p, "a", steps(kind(api.NeedThere), allowed(7), api.Step{Kind: api.NeedAttr, Name: "k", Data: []byte("v")},
			api.Step{Kind: api.NeedNoAttr, Name: "n"}, read(1, 9), getAttr("k")), "bc", "v")
		does(t, p, "none", steps(kind(api.NeedAbsent)))
		does(t, p, "none", steps(allowed(0)))
		if looks(p) != before || d.Steps() != done || d.Waiting() != 0 || p.Names("") == nil {
			t.Errorf("what changes nothing makes %d steps, and %v of %v", d.Steps()-done, looks(p), before)
		}
	}
	reads()
	must(t, d.Arm(0)) // no step is tried
	reads()
	if d.Down() {
		t.Error("what changes nothing tries a step")
	}
	cutPower(t, d) // the pool isn't stuck, and reads need no power
	reads()
}

// An operation that changes, and is full of what doesn't fit in the log, without a change is done.
func TestDoWithoutChangeHasAnySize(t *testing.T) {
	d := newDisk(t, 8)
	p := format(t, d, 1)
	does(t, p, "none", steps(api.Step{Kind: api.NeedAbsent, Name: x(9000), Data: make([]byte, 9000)}))
	if looks(p) != (seen{newText(t, 1), 1, 0, false}) {
		t.Error("something is changed")
	}
}

func TestDoErrors(t *testing.T) {
	d := newDisk(t, 60)
	p := format(t, d, 4)
	does(t, p, "a", steps(create(), write(0, "abc")))
	must(t, p.Block(2))
	for range 2 {
		refuses(t, p, d, api.ErrRange, "", create())
		refuses(t, p, d, api.ErrRange, x(33), create())
		refuses(t, p, d, api.ErrRange, "a b", create())
		refuses(t, p, d, api.ErrRange, "a")
		refuses(t, p, d, api.ErrRange, "a", slices.Repeat(steps(create()), 17)...)
		refuses(t, p, d, api.ErrForm, "a", create(), kind(0))
		refuses(t, p, d, api.ErrForm, "a", kind(math.MinInt))
		refuses(t, p, d, api.ErrForm, "a", write(0, "xyz"), drop(), kind(15))
		refuses(t, p, d, api.ErrNone, "b", kind(api.NeedThere), create())
		refuses(t, p, d, api.ErrNone, "b", read(0, 1))
		refuses(t, p, d, api.ErrNone, "a", drop(), write(0, "x"))
		refuses(t, p, d, api.ErrExists, "a", read(0, 3), kind(api.NeedAbsent))
		refuses(t, p, d, api.ErrGuard, "a", write(0, "x"), api.Step{Kind: api.NeedAttr, Name: "k"})
		refuses(t, p, d, api.ErrBlocked, "a", allowed(2), write(0, "x"))
		refuses(t, p, d, api.ErrBlocked, "a", write(0, "x"), allowed(2))
		refuses(t, p, d, api.ErrRange, "a", write(0, "x"), allowed(8))
		refuses(t, p, d, api.ErrRange, "a", write(1<<16, "x"))
		refuses(t, p, d, api.ErrFull, "a", write(0, x(65)))
		refuses(t, p, d, api.ErrFull, "b", create(), write(0, x(49)))
		for _, client := range []int{-1, 8, math.MinInt, math.MaxInt} {
			before, done := looks(p), d.Steps()
			if want(t, "Block", p.Block(client), api.ErrRange); looks(p) != before || d.Steps() != done {
				t.Errorf("Block(%d) changes something", client)
			}
		}
		// The store's error is ahead of the disk's.
		must(t, d.Arm(0))
	}
	if d.Down() || p.Stuck() {
		t.Error("what is refused tries a step")
	}
}

func TestBlock(t *testing.T) {
	d := newDisk(t, 60)
	p := format(t, d, 4)
	for client := range 8 {
		does(t, p, "a", steps(create(), allowed(client)))
		must(t, p.Block(client))
		refuses(t, p, d, api.ErrBlocked, "a", create(), allowed(client))
		for c := range 8 {
			if p.Store().Blocked(c) != (c <= client) || open(t, d).Store().Blocked(c) != (c <= client) {
				t.Errorf("behind Block(%d) client %d is blocked, or isn't", client, c)
			}
		}
	}
}

// P8.1: what is noted when there is no room

// sized is an operation whose text has n bytes on an object whose name has one: 58 of them are there in any case.
func sized(n int) []api.Step {
	return steps(api.Step{Kind: api.Make, Name: x(n - 58)})
}

func TestSized(t *testing.T) {
	for _, n := range []int{58, 106, 107, 318} {
		if got := len(doText("a", sized(n)...)); got != n {
			t.Fatalf("the text of %d has %d bytes", n, got)
		}
	}
}

func TestNoteFillsTheLog(t *testing.T) {
	d := newDisk(t, 34) // a log of 12 sectors
	p := format(t, d, 4)
	expect := func(gen, count, done int) {
		t.Helper()
		if p.Gen() != gen || p.Len() != count || d.Steps() != done || looks(open(t, d)) != looks(p) {
			t.Fatalf("generation %d, %d transactions, %d steps; not %d, %d, %d", p.Gen(), p.Len(), d.Steps(), gen, count, done)
		}
	}
	does(t, p, "a", sized(5*106)) // 6 of 12
	expect(1, 1, 7+8)
	does(t, p, "a", sized(3*106)) // 10 of 12
	expect(1, 2, 7+8+6)
	state := p.Store().Put()
	shadow := d.Copy()
	does(t, p, "b", sized(106)) // 12 of 12: it just has room
	expect(1, 3, 7+8+6+4)
	p = open(t, shadow)
	d = shadow
	done := d.Steps()
	does(t, p, "b", sized(107)) // 3, where there are 2
	expect(2, 1, done+4+5)
	j, err := journal.Open(d)
	if must(t, err); !bytes.Equal(j.State(), state) {
		t.Error("the state isn't the text of the store as it stood ahead of the operation")
	}
	must(t, p.Block(3)) // 5 of 12
	does(t, p, "a", sized(4*106))
	does(t, p, "a", steps(create())) // 12 of 12
	expect(2, 4, done+9+4+7+4)
	state = p.Store().Put()
	must(t, p.Block(4)) // there is no room at all
	expect(3, 1, done+9+15+4+4)
	j, err = journal.Open(d)
	if must(t, err); !bytes.Equal(j.State(), state) {
		t.Error("the state isn't the text of the store as it stood ahead of Block")
	}
}

// A transaction that the whole log has no room for is refused behind a checkpoint, each time.
func TestNoteTooLarge(t *testing.T) {
	d := newDisk(t, 34) // a log of 12 sectors: 11 parts and an end
	p := format(t, d, 1000)
	does(t, p, "a", sized(11*106))
	before := looks(p)
	for n := range 3 {
		told, err := p.Do("b", append(sized(11*106+1), kind(api.NeedThere))...)
		if want(t, "Do", err, api.ErrFull); told != nil {
			t.Error("told is something beside an error")
		}
		asked := seen{before.store, 2 + n, 0, false}
		if looks(p) != asked || looks(open(t, d)) != asked || d.Waiting() != 0 {
			t.Errorf("%v, not %v", looks(p), asked)
		}
	}
	done := d.Steps()
	told, err := p.Do("a", append(sized(11*106), read(0, 1))...)
	if want(t, "Do", err, api.ErrFull); told != nil || d.Steps() != done+4 {
		t.Errorf("Do of 12 parts tells %q in %d steps", told, d.Steps()-done)
	}
	does(t, p, "b", sized(11*106))
	if p.Gen() != 5 || p.Len() != 1 || !slices.Equal(p.Names(""), []string{"a", "b"}) {
		t.Errorf("generation %d, %d transactions, %q", p.Gen(), p.Len(), p.Names(""))
	}
}

// crowded is a pool whose text an area has no room for, and whose log has six sectors left.
func crowded(t *testing.T) (*pool.Pool, *disk.Disk) {
	t.Helper()
	d := newDisk(t, 62) // areas of 20 sectors: 2120 bytes; a log of 20
	p := format(t, d, 1000)
	for n, name := range []string{"a", "b", "c", "d"} {
		does(t, p, name, steps(create(), write(0, x(500)))) // seven sectors
		if p.Gen() != 1+n/2 || p.Len() != 1+n%2 {
			t.Fatalf("generation %d, %d transactions", p.Gen(), p.Len())
		}
	}
	if len(p.Store().Put()) <= 20*106 {
		t.Fatal("there is room for the text")
	}
	return p, d
}

// A state that an area has no room for: nothing is done, and what needs no checkpoint can be done still.
func TestNoteStateTooLarge(t *testing.T) {
	p, d := crowded(t)
	refuses(t, p, d, api.ErrFull, "e", create(), write(0, x(500)))
	refuses(t, p, d, api.ErrFull, "a", drop(), create(), write(0, x(500)), read(0, 1)) // it isn't the text behind it that is too large
	for n := range 3 {
		must(t, p.Block(n))
	}
	before, done := looks(p), d.Steps()
	want(t, "Block", p.Block(4), api.ErrFull)
	refuses(t, p, d, api.ErrFull, "a", drop())
	if looks(p) != before || d.Steps() != done || looks(open(t, d)) != before || p.Stuck() || p.Gen() != 2 || p.Len() != 5 {
		t.Error("what is refused changes something")
	}
	does(t, p, "a", steps(read(0, 3)), "xxx")
}

// As long as the log has room for it, room can be made for the state.
func TestNoteMakesRoom(t *testing.T) {
	p, d := crowded(t)
	does(t, p, "a", steps(drop()))
	does(t, p, "e", steps(create(), write(0, x(500))))
	if p.Gen() != 3 || p.Len() != 1 || looks(open(t, d)) != looks(p) {
		t.Errorf("generation %d, %d transactions", p.Gen(), p.Len())
	}
}

// Generations end at last: the journal's error is the pool's, which isn't stuck by it.
func TestNoteBehindLastGeneration(t *testing.T) {
	d := newDisk(t, 8) // areas and log of two sectors
	text := newText(t, 5)
	for i, b := range map[int]box.Box{0: {Kind: 1, Gen: 1 << 62, Data: []byte(num(len(text)))}, 2: {Kind: 2, Gen: 1 << 62, Data: []byte(text)}} {
		s, err := box.Seal(b)
		must(t, err)
		must(t, d.Write(i, s))
	}
	must(t, d.Flush())
	p := open(t, d)
	must(t, p.Block(1))
	if p.Gen() != 1<<62 || p.Len() != 1 {
		t.Fatalf("generation %d, %d transactions", p.Gen(), p.Len())
	}
	before, done := looks(p), d.Steps()
	want(t, "Block", p.Block(2), api.ErrRange)
	refuses(t, p, d, api.ErrRange, "a", create())
	if looks(p) != before || d.Steps() != done || p.Stuck() {
		t.Error("it is stuck, or another one")
	}
}

// P8.1: Stuck

func TestStuck(t *testing.T) {
	calls := map[string]func(p *pool.Pool) error{
		"Do":    func(p *pool.Pool) error { _, err := p.Do("a", write(0, "new"), read(0, 9)); return err },
		"Block": func(p *pool.Pool) error { return p.Block(3) },
	}
	for what, call := range calls {
		for _, full := range []bool{false, true} {
			for arm := range 9 {
				d := newDisk(t, 20) // a log of 6 sectors
				p := format(t, d, 10)
				does(t, p, "a", steps(create(), write(0, "old")))
				if full {
					does(t, p, "a", steps(create()))
				}
				before := looks(p)
				must(t, d.Arm(arm))
				err := call(p)
				if err == nil {
					if arm < 4 || p.Stuck() {
						t.Errorf("%s is done in %d steps, or stuck", what, arm)
					}
					continue
				}
				want(t, what, err, api.ErrDown)
				// Of a checkpoint that is done ahead of the cut the generation tells.
				before.stuck = true
				if full && arm >= 4 {
					before.gen, before.len = 2, 0
				}
				if looks(p) != before {
					t.Errorf("%s, cut at step %d: %v, not %v", what, arm, looks(p), before)
				}
				staysStuck(t, p, d, before)
			}
		}
	}
}

// staysStuck: whatever is asked of it, and even with power again, but what is looked at.
func staysStuck(t *testing.T, p *pool.Pool, d *disk.Disk, before seen) {
	t.Helper()
	for range 2 {
		refuses(t, p, d, api.ErrDown, "a", write(0, "x"))
		refuses(t, p, d, api.ErrDown, "a", read(0, 3))
		refuses(t, p, d, api.ErrDown, "no name", kind(99))
		refuses(t, p, d, api.ErrDown, "a")
		for _, client := range []int{3, -1, 99} {
			want(t, "Block", p.Block(client), api.ErrDown)
		}
		if b, ok := p.Look("a"); !ok || string(b) != "old" {
			t.Errorf("a is %q, %v", b, ok)
		}
		if looks(p) != before || !slices.Equal(p.Names(""), []string{"a"}) {
			t.Errorf("%v, not %v", looks(p), before)
		}
		d.Crash()
	}
	must(t, open(t, d).Block(1))
}

// P8.1: Store, Look, Names

func TestLook(t *testing.T) {
	d := newDisk(t, 4096)
	p := format(t, d, 1<<16)
	long := strings.Repeat("0123456789abcdef", 1<<12)
	does(t, p, "long", steps(create(), write(0, long)))
	does(t, p, "empty", steps(create(), setAttr("k", "v")))
	does(t, p, "a", steps(create(), write(3, "abc")))
	done := d.Steps()
	for name, asked := range map[string]string{"long": long, "empty": "", "a": "\x00\x00\x00abc"} {
		if b, ok := p.Look(name); !ok || string(b) != asked {
			t.Errorf("%s: %d bytes, %v", name, len(b), ok)
		}
	}
	for _, name := range []string{"b", "", "no name", x(33), "lon", "\x00", "A"} {
		if b, ok := p.Look(name); ok || b != nil {
			t.Errorf("%q: %q, %v", name, b, ok)
		}
	}
	does(t, p, "a", steps(drop()))
	if b, ok := p.Look("a"); ok || b != nil {
		t.Errorf("what was dropped: %q, %v", b, ok)
	}
	if d.Steps() != done+4 {
		t.Error("Look makes steps")
	}
}

func TestNames(t *testing.T) {
	p := format(t, newDisk(t, 100), 1)
	for _, name := range []string{"b", "ab", "a", "~", "B", "abc", "!"} {
		does(t, p, name, steps(create()))
	}
	for prefix, asked := range map[string][]string{
		"":     {"!", "B", "a", "ab", "abc", "b", "~"},
		"a":    {"a", "ab", "abc"},
		"ab":   {"ab", "abc"},
		"abcd": nil,
		"c":    nil,
		" ":    nil,
	} {
		if got := p.Names(prefix); !slices.Equal(got, asked) {
			t.Errorf("Names(%q) is %q, not %q", prefix, got, asked)
		}
	}
}

func TestStoreIsACopy(t *testing.T) {
	d := newDisk(t, 60)
	p := format(t, d, 10)
	does(t, p, "a", steps(create(), write(0, "abc"), setAttr("k", "v")))
	before := looks(p)
	s := p.Store()
	if s.Size("a") != 3 || s.Free() != 9 || !slices.Equal(s.Extents("a"), []api.Extent{{At: 0, Len: 1}}) {
		t.Error("the copy is another one")
	}
	_, err := s.Do("a", write(1, "X"), setAttr("k", "w"), write(3, x(40)))
	must(t, err)
	_, err = s.Do("b", create())
	must(t, err)
	must(t, s.Block(3))
	if looks(p) != before {
		t.Error("what is done with the copy is done with the pool")
	}
	text := s.Put()
	does(t, p, "a", steps(write(0, "ABC"), setAttr("k", "z"), drop()))
	must(t, p.Block(1))
	if !bytes.Equal(s.Put(), text) {
		t.Error("what is done with the pool is done with the copy")
	}
}

// P8.1: a nil Pool

func TestNilPool(t *testing.T) {
	var p *pool.Pool
	for _, list := range [][]api.Step{nil, steps(create()), steps(read(0, 1)), steps(kind(0))} {
		for _, name := range []string{"a", ""} {
			told, err := p.Do(name, list...)
			if want(t, "Do", err, api.ErrState); told != nil {
				t.Errorf("told is %q", told)
			}
		}
	}
	for _, client := range []int{0, -1, 99} {
		want(t, "Block", p.Block(client), api.ErrState)
	}
	if p.Store() != nil || p.Names("") != nil || p.Gen() != 0 || p.Len() != 0 || !p.Stuck() {
		t.Error("a nil Pool shows something")
	}
	if b, ok := p.Look("a"); ok || b != nil {
		t.Error("a nil Pool has an object")
	}
}

// P8.3: what is handed in, and answers

// spoil makes other bytes of bytes, and of their spare room.
func spoil(b []byte) {
	b = b[:cap(b)]
	for i := range b {
		b[i] ^= 0xff
	}
}

func TestHandedInIsLetGo(t *testing.T) {
	d := newDisk(t, 200)
	p := format(t, d, 100)
	roomy := func(s string) []byte { return append(make([]byte, 0, 50), s...) }
	list := make([]api.Step, 0, 20)
	list = append(list, create(), api.Step{Kind: api.Write, Data: roomy("abc")}, api.Step{Kind: api.SetAttr, Name: "k", Data: roomy("v")},
		api.Step{Kind: api.NeedAttr, Name: "k", Data: roomy("v")}, read(0, 9), getAttr("k"))
	was := doText("a", list...)
	spare := slices.Clone(list[:cap(list)])
	does(t, p, "a", list, "abc", "v")
	if doText("a", list...) != was || !slices.EqualFunc(list[:cap(list)], spare, func(s, o api.Step) bool { return stepText(s) == stepText(o) }) {
		t.Error("the steps are changed")
	}
	for _, s := range list {
		if s.Data != nil && !bytes.Equal(s.Data[len(s.Data):cap(s.Data)], make([]byte, cap(s.Data)-len(s.Data))) {
			t.Error("spare room is changed")
		}
	}
	before := looks(p)
	for i := range list {
		spoil(list[i].Data)
		list[i] = kind(99)
	}
	if looks(p) != before || !slices.Equal(noted(t, d), []string{was}) || looks(open(t, d)) != before {
		t.Error("the steps are kept")
	}
	does(t, p, "a", steps(read(0, 9), getAttr("k")), "abc", "v")
}

func TestAnswersAreNew(t *testing.T) {
	d := newDisk(t, 200)
	p := format(t, d, 100)
	does(t, p, "b", steps(create()))
	for range 2 {
		told, err := p.Do("a", create(), write(0, x(20)), setAttr("k", "v"), read(0, 20), read(0, 20), getAttr("k"))
		must(t, err)
		before := looks(p)
		for i, b := range told {
			spoil(b)
			if i == 0 && !slices.Equal(texts(told[1:]), []string{x(20), "v"}) {
				t.Error("rows of one answer share memory")
			}
		}
		told, err = p.Do("a", read(0, 20), read(5, 3), getAttr("k"))
		must(t, err)
		for _, b := range told {
			spoil(b)
		}
		b, _ := p.Look("a")
		spoil(b)
		names := p.Names("")
		names[0] = "z"
		if looks(p) != before || looks(open(t, d)) != before || !slices.Equal(p.Names(""), []string{"a", "b"}) {
			t.Error("what is done with answers is done with the pool")
		}
		does(t, p, "a", steps(read(0, 99), getAttr("k")), x(20), "v")
		if b, ok := p.Look("a"); !ok || string(b) != x(20) {
			t.Errorf("a is %q", b)
		}
	}
}
