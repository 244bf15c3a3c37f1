package image_test

import (
	"errors"
	"math"
	"testing"

	"lamina/api"
	"lamina/image"
	"lamina/pool"
)

// numbers holds Number's answer against what it must be.
func numbers(t *testing.T, p *pool.Pool, client, asked int, bad error) {
	t.Helper()
	if n, err := image.Number(p, client); n != asked || !errors.Is(err, bad) {
		t.Errorf("client %d: %d, %v; not %d, %v", client, n, err, asked, bad)
	}
}

// P15.1: Number

func TestNumber(t *testing.T) {
	p, _ := roomy(t)
	for n := range 300 {
		numbers(t, p, n%9-1, n, nil)
		if b, there := p.Look("next"); !there || string(b) != num(n+1) {
			t.Fatalf("the counter is %q", b)
		}
	}
	if l := p.Names(""); len(l) != 1 {
		t.Errorf("%q are there", l)
	}
}

func TestNumberGoesOn(t *testing.T) {
	for _, n := range []int{0, 1, 255, 256, 65535, 1 << 24, math.MaxInt32 - 2, math.MaxInt32 - 1} {
		p, _ := roomy(t)
		lay(t, p, "next", num(n))
		numbers(t, p, 3, n, nil)
		if b, _ := p.Look("next"); string(b) != num(n+1) {
			t.Errorf("the counter is %q", b)
		}
	}
}

func TestLastNumber(t *testing.T) {
	p, d := roomy(t)
	lay(t, p, "next", num(math.MaxInt32-2))
	numbers(t, p, 0, math.MaxInt32-2, nil)
	numbers(t, p, 0, math.MaxInt32-1, nil)
	before, done := stored(p), d.Steps()
	for _, client := range clients() {
		numbers(t, p, client, 0, api.ErrCorrupt)
	}
	if stored(p) != before || d.Steps() != done {
		t.Error("a counter at its end is changed")
	}
}

func TestSpoiltCounter(t *testing.T) {
	for _, text := range []string{
		"", "\x00", "5", num(5)[:7], num(5) + "\x00", num(5)[:7] + "\x00\x00", num(-1), num(math.MinInt), num(math.MaxInt), num(math.MaxInt32), num(1 << 31), num(1 << 32), num(1<<32 + 5), num(1 << 62), num(5) + num(5), x(100),
	} {
		p, d := roomy(t)
		lay(t, p, "next", text)
		must(t, p.Block(5))
		before, done := stored(p), d.Steps()
		for range 2 {
			for _, client := range append(clients(), 5) {
				numbers(t, p, client, 0, api.ErrCorrupt)
			}
			if stored(p) != before || d.Steps() != done {
				t.Errorf("%q is changed", text)
			}
			cutPower(t, p, d) // its bytes come ahead of the pool's error
			before, done = stored(p), d.Steps()
		}
	}
}

// P15.2: no number is answered twice, whoever asks, and wherever the power goes

func TestNoNumberTwice(t *testing.T) {
	p, d := fresh(t, 40, 100)
	seen := map[int]int{}
	least := -1
	for i := range 400 {
		if i%3 == 0 {
			must(t, d.Arm(i/3%7))
		}
		if i == 200 {
			must(t, p.Block(3))
		}
		n, err := image.Number(p, i%9-1)
		if err != nil {
			if n != 0 {
				t.Fatalf("%d beside %v", n, err)
			}
		} else if seen[n]++; seen[n] > 1 || n <= least {
			t.Fatalf("%d is answered behind %d", n, least)
		} else {
			least = n
		}
		if p.Stuck() {
			d.Crash(i%2 == 0, i%5 == 0, true)
			p, err = pool.Open(d)
			must(t, err)
		}
	}
	if len(seen) < 150 {
		t.Errorf("%d numbers: too few", len(seen))
	}
}
