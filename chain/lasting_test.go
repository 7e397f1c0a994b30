package chain_test

import (
	"slices"
	"testing"

	"gazette/api"
	"gazette/chain"
)

// P1007

func TestThereAndBack(t *testing.T) {
	for _, c := range good() {
		checkThereAndBack(t, c, 3)
	}
	d := diceOf(3)
	for range 20000 {
		nodes := pick(d, 1, 2, 3, 9, 256)
		checkThereAndBack(t, d.chain(nodes), nodes)
	}
}

func checkThereAndBack(t *testing.T, c chain.Chain, nodes int) {
	t.Helper()
	mustBe(t, c, nodes)
	b := mustEncode(t, c, nodes)
	d, e := chain.Decode(b, nodes)
	if !same(c, d) || e != api.OK {
		t.Fatalf("%v: Decode of its bytes: %v, %d", c, d, e)
	}
	checkEncode(t, d, nodes, b, api.OK)
}

// P1008, P1009

// spot is where an address is found: in which loglet, and where in it.
type spot struct {
	id, pos int
	ok      bool
}

func spotOf(c chain.Chain, addr int) spot {
	part, pos, ok := chain.Find(c, addr)
	if !ok {
		return spot{}
	}
	return spot{c.Parts[part].Config.ID, pos, true}
}

// addresses are the ones around all numbers of the chains, and some between.
func addresses(d dice, chains ...chain.Chain) []int {
	var list []int
	around := func(n int) { list = append(list, n-1, n, n+1) }
	for _, c := range chains {
		around(c.Trim)
		around(last(c) + full)
		for _, p := range c.Parts {
			around(p.First)
			list = append(list, p.First+d.IntN(full))
		}
	}
	slices.Sort(list)
	return slices.Compact(list)
}

func checkExtended(t *testing.T, d dice, was, is chain.Chain, end, id int) {
	t.Helper()
	for _, addr := range addresses(d, was, is) {
		got, want := spotOf(is, addr), spotOf(was, addr)
		if addr >= end {
			want = spot{id, addr - end, true}
			if addr-end >= full {
				want = spot{}
			}
		}
		if got != want {
			t.Fatalf("%v, and %v behind an Extend at %d: the address %d: %v, not %v", was, is, end, addr, got, want)
		}
	}
}

func checkShortened(t *testing.T, d dice, was, is chain.Chain, at int) {
	t.Helper()
	for _, addr := range addresses(d, was, is) {
		got, want := spotOf(is, addr), spotOf(was, addr)
		if addr < at {
			want = spot{}
		}
		if got != want {
			t.Fatalf("%v, and %v behind a Cut at %d: the address %d: %v, not %v", was, is, at, addr, got, want)
		}
	}
}

func TestEachAddressOnce(t *testing.T) {
	d := diceOf(4)
	extended, shortened := 0, 0
	for range 20000 {
		was := d.chain(3)
		mustBe(t, was, 3)
		at := d.number(was)
		if is, e := chain.Extend(was, 3, 2, at, three(9999)); e == api.OK {
			mustBe(t, is, 3)
			checkExtended(t, d, was, is, at, 9999)
			extended++
		}
		if is, e := chain.Cut(was, 3, at); e == api.OK {
			mustBe(t, is, 3)
			checkShortened(t, d, was, is, at)
			shortened++
		}
	}
	if extended < 5000 || shortened < 5000 {
		t.Errorf("%d Extends, %d Cuts: that is too little", extended, shortened)
	}
}

// A log as its owners know it: each address that was filled once has one spot ever after.
func TestStoriesOfAChain(t *testing.T) {
	fullOnes := 0
	for seed := range uint64(60) {
		d := diceOf(100 + seed)
		c, end := chain.Chain{}, 0
		filled := map[int]spot{}
		patience := pick(d, 3, 10, 200)
		for step := range 400 {
			if d.IntN(patience) == 0 {
				at := c.Trim + d.IntN(max(1, last(c)-c.Trim+1))
				if d.IntN(40) == 0 {
					at = last(c)
				}
				if at >= c.Trim && at <= last(c) {
					c = mustCut(t, c, 3, at)
				}
			} else if len(c.Parts) == api.MaxChain && end != last(c) {
				checkEnds(t, c, end, api.ErrFull)
				fullOnes++
				c = mustCut(t, c, 3, max(c.Trim, last(c)-d.IntN(30)))
			} else {
				c = mustExtend(t, c, 3, d.IntN(16), end, three(step))
				for range pick(d, 0, 1, 1, 2, 5, 60) {
					filled[end] = spotOf(c, end)
					end++
				}
			}
			checkStory(t, c, filled)
		}
	}
	if fullOnes == 0 {
		t.Error("no chain was ever full")
	}
}

func checkStory(t *testing.T, c chain.Chain, filled map[int]spot) {
	t.Helper()
	checkThereAndBack(t, c, 3)
	for addr, was := range filled {
		got := spotOf(c, addr)
		if addr < c.Trim && got != (spot{}) || addr >= c.Trim && (got != was || !got.ok) {
			t.Fatalf("%v: the address %d: %v, and it was %v", c, addr, got, was)
		}
	}
}
