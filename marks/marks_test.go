package marks_test

import (
	"bytes"
	"errors"
	"math"
	"slices"
	"strings"
	"testing"

	"lamina/api"
	"lamina/marks"
)

// letters are the marks' letters, in the order of their numbers: None, There, Going, Clean.
const letters = "ntgc"

// row is marks by their letters; another letter is the byte 4, which is no mark.
func row(s string) marks.Marks {
	m := marks.Marks{}
	for _, c := range s {
		if i := strings.IndexRune(letters, c); i >= 0 {
			m = append(m, byte(i))
		} else {
			m = append(m, 4)
		}
	}
	return m
}

// show is marks as letters, ? for what is no mark.
func show(m marks.Marks) string {
	var b strings.Builder
	for _, mark := range m {
		b.WriteByte((letters + "?")[min(mark, 4)])
	}
	return b.String()
}

// is tells of marks that aren't those that are asked for.
func is(t *testing.T, what string, got marks.Marks, err error, asked string) {
	t.Helper()
	if err != nil || show(got) != asked {
		t.Errorf("%s: %s, %v; not %s", what, show(got), err, asked)
	}
}

// refuses tells of a call that doesn't answer an error, or answers something beside it.
func refuses[T ~[]byte](t *testing.T, what string, got T, err, asked error) {
	t.Helper()
	if !errors.Is(err, asked) || got != nil {
		t.Errorf("%s: %v, %v; not %v", what, got, err, asked)
	}
}

// flags is a list of bools: x is true, all else false.
func flags(s string) []bool {
	var l []bool
	for _, c := range s {
		l = append(l, c == 'x')
	}
	return l
}

func times(n int, s string) string { return strings.Repeat(s, n) }

// P10.1: the marks' numbers

func TestNumbers(t *testing.T) {
	if l := []int{marks.None, marks.There, marks.Going, marks.Clean}; !slices.Equal(l, []int{0, 1, 2, 3}) {
		t.Errorf("None, There, Going and Clean are %v", l)
	}
}

// P10.1: New

func TestNew(t *testing.T) {
	for _, n := range []int{0, 1, 2, 3, 4, 5, 128, 255, 256} {
		m, err := marks.New(n)
		is(t, "New", m, err, times(n, "n"))
	}
	for _, n := range []int{-1, -2, -256, 257, 258, 512, 1 << 16, math.MaxInt32, 1 << 32, math.MaxInt, math.MinInt} {
		m, err := marks.New(n)
		refuses(t, "New", m, err, api.ErrRange)
	}
}

// P10.1: Put and Take

// texts are rows of marks and their bytes.
func texts() map[string][]byte {
	whole := func(n int, head []byte, b byte) []byte { return append(head, bytes.Repeat([]byte{b}, n)...) }
	return map[string][]byte{
		"":                         {0, 0},
		"n":                        {1, 0, 0},
		"t":                        {1, 0, 1},
		"g":                        {1, 0, 2},
		"c":                        {1, 0, 3},
		"tnc":                      {3, 0, 49},
		"nt":                       {2, 0, 4},
		"nnt":                      {3, 0, 16},
		"nnnt":                     {4, 0, 64},
		"nnng":                     {4, 0, 128},
		"nnnc":                     {4, 0, 192},
		"ntgc":                     {4, 0, 0xe4},
		"cgtn":                     {4, 0, 0x1b},
		"ccccn":                    {5, 0, 255, 0},
		"nnnnt":                    {5, 0, 0, 1},
		"tgcttnnnc":                {9, 0, 0x79, 1, 3},
		times(252, "n"):            whole(63, []byte{252, 0}, 0),
		times(253, "t"):            append(whole(63, []byte{253, 0}, 0x55), 1),
		times(255, "c"):            append(whole(63, []byte{255, 0}, 255), 63),
		times(256, "c"):            whole(64, []byte{0, 1}, 255),
		times(256, "n"):            whole(64, []byte{0, 1}, 0),
		times(255, "n") + "g":      append(whole(63, []byte{0, 1}, 0), 128),
		"g" + times(255, "n"):      append([]byte{0, 1, 2}, make([]byte, 63)...),
		times(64, "ntgc"):          whole(64, []byte{0, 1}, 0xe4),
		times(31, "cgtn") + "tttt": append(whole(31, []byte{128, 0}, 0x1b), 0x55),
	}
}

func TestTexts(t *testing.T) {
	for s, text := range texts() {
		b, err := marks.Put(row(s))
		if err != nil || !bytes.Equal(b, text) {
			t.Errorf("Put of %s: %v, %v; not %v", s, b, err, text)
		}
		m, err := marks.Take(text)
		is(t, "Take", m, err, s)
	}
	if b, err := marks.Put(nil); err != nil || !bytes.Equal(b, []byte{0, 0}) {
		t.Errorf("Put of nil: %v, %v", b, err)
	}
}

func TestPutOfNoMarks(t *testing.T) {
	for _, s := range []string{"?", "?n", "n?", "ccc?", "ntgc?", times(255, "c") + "?", times(257, "n"), times(257, "c"), times(256, "t") + "?", times(258, "n"), times(512, "n"), times(1<<16, "n"), times(1<<16+1, "t")} {
		b, err := marks.Put(row(s))
		refuses(t, "Put of "+s, b, err, api.ErrForm)
	}
	for b := 4; b < 256; b++ {
		for at := range 9 {
			m := row("ntgctgcnn")
			m[at] = byte(b)
			got, err := marks.Put(m)
			refuses(t, "Put of "+show(m), got, err, api.ErrForm)
		}
	}
}

func TestTakeOfOtherBytes(t *testing.T) {
	for s, text := range texts() {
		for n := range len(text) {
			m, err := marks.Take(text[:n])
			refuses(t, "Take of a part of "+s, m, err, api.ErrForm)
		}
		for _, more := range [][]byte{{0}, {1}, {0, 0}, {255, 255}} {
			m, err := marks.Take(slices.Concat(text, more))
			refuses(t, "Take of more than "+s, m, err, api.ErrForm)
		}
	}
	long := func(b ...byte) []byte { return append(b, make([]byte, 65)...) }
	for _, b := range [][]byte{
		nil, {}, {0}, {1}, {255}, {1, 0, 4}, {1, 0, 8}, {1, 0, 64}, {1, 0, 128}, {1, 0, 255}, {2, 0, 16}, {2, 0, 32}, {2, 0, 128}, {3, 0, 64}, {3, 0, 128}, {3, 0, 192},
		{5, 0, 0, 4}, {5, 0, 255, 128}, {6, 0, 0, 16}, {7, 0, 0, 64}, {7, 0, 0, 128}, long(1, 1), long(1, 1)[:66], long(2, 1), long(4, 1), append(long(5, 1), 0),
		long(0, 1), {0, 1}, {0, 1, 0}, {0, 2}, {0, 255}, {255, 255}, {1, 1, 0}, {4, 1, 0}, append([]byte{0, 2}, make([]byte, 128)...), append([]byte{0, 128}, make([]byte, 1<<13)...),
		append([]byte{255, 255}, make([]byte, 1<<14)...), append([]byte{1, 255}, 0),
	} {
		m, err := marks.Take(b)
		refuses(t, "Take", m, err, api.ErrForm)
	}
}

// P10.1: Set

func TestSet(t *testing.T) {
	for _, x := range []struct {
		m     string
		i     int
		mark  byte
		asked string
	}{
		{"n", 0, marks.There, "t"}, {"n", 0, marks.Going, "g"}, {"n", 0, marks.Clean, "c"}, {"c", 0, marks.None, "n"}, {"t", 0, marks.There, "t"},
		{"ntgc", 0, marks.Clean, "ctgc"}, {"ntgc", 1, marks.Going, "nggc"}, {"ntgc", 2, marks.None, "ntnc"}, {"ntgc", 3, marks.There, "ntgt"},
		{times(256, "n"), 255, marks.Clean, times(255, "n") + "c"}, {times(256, "c"), 0, marks.None, "n" + times(255, "c")},
	} {
		m, err := row(x.m).Set(x.i, x.mark)
		is(t, "Set", m, err, x.asked)
	}
	for _, x := range []struct {
		m    string
		i    int
		mark byte
	}{
		{"", 0, 0}, {"", -1, 0}, {"n", 1, 0}, {"n", -1, 0}, {"ntgc", 4, 1}, {"ntgc", 5, 1}, {"ntgc", -4, 1}, {"ntgc", math.MaxInt, 1}, {"ntgc", math.MinInt, 1}, {"ntgc", 1 << 32, 1},
		{"ntgc", 0, 4}, {"ntgc", 3, 5}, {"ntgc", 1, 128}, {"ntgc", 1, 255}, {"ntgc", 4, 4}, {times(256, "n"), 256, 1}, {times(256, "n"), 257, 1},
	} {
		m, err := row(x.m).Set(x.i, x.mark)
		refuses(t, "Set", m, err, api.ErrRange)
	}
	m, err := marks.Marks(nil).Set(0, 0)
	refuses(t, "Set of nil", m, err, api.ErrRange)
}

// P10.1: Sized

func TestSized(t *testing.T) {
	for _, x := range []struct {
		m     string
		n     int
		asked string
	}{
		{"", 0, ""}, {"", 1, "n"}, {"", 256, times(256, "n")}, {"t", 0, ""}, {"t", 1, "t"}, {"t", 2, "tn"}, {"ntgc", 0, ""}, {"ntgc", 3, "ntg"}, {"ntgc", 4, "ntgc"},
		{"ntgc", 6, "ntgcnn"}, {"cccc", 256, "cccc" + times(252, "n")}, {times(256, "g"), 256, times(256, "g")}, {times(256, "g"), 255, times(255, "g")}, {times(255, "g"), 256, times(255, "g") + "n"},
		{times(256, "g"), 1, "g"}, {times(300, "c"), 256, times(256, "c")}, {times(300, "c"), 2, "cc"},
	} {
		m, err := row(x.m).Sized(x.n)
		is(t, "Sized", m, err, x.asked)
	}
	for _, s := range []string{"", "t", "ntgc", times(256, "c"), times(257, "c"), times(300, "c")} {
		for _, n := range []int{-1, -4, 257, 258, 300, 1 << 16, 1 << 32, math.MaxInt, math.MinInt} {
			m, err := row(s).Sized(n)
			refuses(t, "Sized of "+s, m, err, api.ErrRange)
		}
	}
	m, err := marks.Marks(nil).Sized(2)
	is(t, "Sized of nil", m, err, "nn")
}

func TestSizedHasNoneBehind(t *testing.T) {
	// What stands in the spare room of marks isn't theirs.
	m, err := row("tgct")[:2].Sized(4)
	is(t, "Sized", m, err, "tgnn")
}

// P10.1: Frozen

func TestFrozen(t *testing.T) {
	for s, asked := range map[string]string{
		"": "", "n": "n", "t": "c", "g": "g", "c": "c", "ntgc": "ncgc", "tttt": "cccc", "tngtct": "cngccc", times(256, "t"): times(256, "c"), times(256, "g"): times(256, "g"),
		times(255, "n") + "t": times(255, "n") + "c", "t?t": "c?c", times(300, "t"): times(300, "c"),
	} {
		is(t, "Frozen of "+s, row(s).Frozen(), nil, asked)
	}
	is(t, "Frozen of nil", marks.Marks(nil).Frozen(), nil, "")
}

// P10.1: Changed

func TestChanged(t *testing.T) {
	for _, x := range []struct {
		m, old string
		asked  []int
	}{
		{"", "", nil}, {"nnn", "", nil}, {"", "nnn", nil}, {"n", "n", nil}, {"c", "c", nil}, {"cccc", "ctgc", nil}, {"n", "nnnn", nil},
		{"t", "n", []int{0}}, {"t", "t", []int{0}}, {"t", "g", []int{0}}, {"t", "c", []int{0}}, {"g", "n", []int{0}}, {"g", "t", []int{0}}, {"g", "g", []int{0}}, {"g", "c", []int{0}},
		{"n", "t", []int{0}}, {"n", "g", []int{0}}, {"n", "c", []int{0}}, {"c", "n", []int{0}}, {"c", "t", nil}, {"c", "g", nil},
		{"tgcnnn", "", []int{0, 1, 2}}, {"", "tgcn", []int{0, 1, 2}}, {"nnnc", "", []int{3}}, {"", "nnnc", []int{3}}, {"cc", "ccnt", []int{3}}, {"ccnt", "cc", []int{3}}, {"ccng", "cc", []int{3}},
		{"tcntg", "nncct", []int{0, 1, 2, 3, 4}}, {times(255, "c") + "t", times(256, "c"), []int{255}}, {times(255, "c"), times(256, "c"), []int{255}}, {times(256, "c"), times(255, "c"), []int{255}},
	} {
		if l := row(x.m).Changed(row(x.old)); !slices.Equal(l, x.asked) {
			t.Errorf("%s since %s: %v, not %v", x.m, x.old, l, x.asked)
		}
	}
	if a, b, c := marks.Marks(nil).Changed(nil), marks.Marks(nil).Changed(row("nt")), row("nt").Changed(nil); len(a) > 0 || !slices.Equal(b, []int{1}) || !slices.Equal(c, []int{1}) {
		t.Errorf("Changed of nil, since nil: %v, %v, %v", a, b, c)
	}
	if l := row(times(256, "t")).Changed(nil); len(l) != 256 || !slices.IsSorted(l) || l[0] != 0 || l[255] != 255 {
		t.Errorf("Changed of 256: %v", l)
	}
}

// P10.1: Covers

func TestCovers(t *testing.T) {
	for _, x := range []struct {
		m, there string
		asked    bool
	}{
		{"", "", true}, {"", "-", true}, {"", "--", true}, {"", "x", false}, {"", "-x", false}, {"n", "", true}, {"n", "-", true}, {"n", "x", false}, {"t", "x", true}, {"g", "x", true}, {"c", "x", true},
		{"tgc", "---", true}, {"tgc", "xxx", true}, {"tgc", "xxx-", true}, {"tgc", "xxxx", false}, {"tgc", "---x", false}, {"tgc", "", true}, {"tgc", "x", true}, {"tnc", "x-x", true}, {"tnc", "xxx", false},
		{"nnnt", "---x", true}, {"nnnt", "x--x", false}, {"tttn", "---x", false}, {"tttn", "xxx", true}, {times(256, "c"), times(256, "x"), true}, {times(256, "c"), times(257, "x"), false},
		{times(256, "c"), times(256, "x") + "-", true}, {times(256, "c"), times(300, "-") + "x", false}, {times(255, "c") + "n", times(256, "x"), false}, {times(255, "c") + "n", times(255, "x") + "-", true},
	} {
		if got := row(x.m).Covers(flags(x.there)); got != x.asked {
			t.Errorf("%s covers %s: %v", x.m, x.there, got)
		}
	}
	if none := marks.Marks(nil); !none.Covers(nil) || !none.Covers(flags("-")) || none.Covers(flags("x")) || !row("n").Covers(nil) {
		t.Error("Covers of nil, or by nil")
	}
}

// P10.1: Scan

func TestScan(t *testing.T) {
	for _, x := range []struct{ there, clean, asked string }{
		{"", "", ""}, {"", "xxx", ""}, {"-", "", "n"}, {"-", "x", "n"}, {"-", "-", "n"}, {"x", "", "t"}, {"x", "-", "t"}, {"x", "x", "c"}, {"x", "-x", "t"}, {"x", "xx", "c"},
		{"xx", "x", "ct"}, {"-x", "x", "nt"}, {"x-x", "-xx", "tnc"}, {"xxx", "xxx", "ccc"}, {"xxx", "---", "ttt"}, {"---", "xxx", "nnn"}, {"x-x-", "xx", "cntn"},
		{times(256, "x"), "", times(256, "t")}, {times(256, "x"), times(256, "x"), times(256, "c")}, {times(256, "x"), times(255, "x"), times(255, "c") + "t"}, {times(300, "x"), "x", "c" + times(299, "t")},
	} {
		is(t, "Scan of "+x.there+", "+x.clean, marks.Scan(flags(x.there), flags(x.clean)), nil, x.asked)
	}
	is(t, "Scan of nil", marks.Scan(nil, nil), nil, "")
	is(t, "Scan of nil and clean ones", marks.Scan(nil, flags("xx")), nil, "")
	is(t, "Scan without clean ones", marks.Scan(flags("x-"), nil), nil, "tn")
}
