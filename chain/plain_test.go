package chain_test

import (
	"math"
	"math/big"
	"math/rand/v2"
	"slices"
	"testing"

	"gazette/api"
	"gazette/chain"
	"gazette/loglet"
)

// What the chapter's words say, as plainly as can be: numbers here are as great as they are, and nothing is spared.

func over(a, b int) *big.Int { return new(big.Int).Sub(big.NewInt(int64(a)), big.NewInt(int64(b))) }

func above(d *big.Int, n int) bool { return d.Cmp(big.NewInt(int64(n))) > 0 }

func within(n, least, most int) bool { return n >= least && n <= most }

func plainMayBe(c chain.Chain, nodes int) bool {
	n := len(c.Parts)
	if !within(c.Owner, 0, 15) || !within(c.Trim, 0, api.MaxNumber-1) || n > api.MaxChain {
		return false
	}
	ids := map[int]int{}
	for i, p := range c.Parts {
		ids[p.Config.ID]++
		if loglet.Check(p.Config, nodes) != api.OK || !within(p.First, 0, api.MaxNumber-1) {
			return false
		}
		if i > 0 && !within(p.First-c.Parts[i-1].First, 0, api.MaxSlots) {
			return false
		}
	}
	switch {
	case len(ids) < n:
		return false
	case n == 0:
		return c.Trim == 0
	case n > 1 && c.Trim >= c.Parts[1].First:
		return false
	}
	return c.Trim >= c.Parts[0].First && c.Trim <= c.Parts[n-1].First+api.MaxSlots
}

func plainCheck(c chain.Chain, nodes int) api.Errno {
	if plainMayBe(c, nodes) {
		return api.OK
	}
	return api.ErrArg
}

func plainEncode(c chain.Chain, nodes int) ([]byte, api.Errno) {
	switch {
	case !plainMayBe(c, nodes):
		return nil, api.ErrArg
	case nodes > 256:
		return nil, api.ErrSize
	}
	b, _ := plainBytes(c)
	return b, api.OK
}

func plainFind(c chain.Chain, addr int) (part, pos int, ok bool) {
	found := -1
	for i, p := range c.Parts {
		if p.First <= addr {
			found = i
		}
	}
	if addr < c.Trim || addr < 0 || found < 0 || above(over(addr, c.Parts[found].First), api.MaxSlots-1) {
		return 0, 0, false
	}
	return found, addr - c.Parts[found].First, true
}

func plainEnd(c chain.Chain, part int) int {
	for i := range c.Parts {
		if i == part && i < len(c.Parts)-1 {
			return c.Parts[i+1].First
		}
	}
	return -1
}

func plainExtend(c chain.Chain, nodes, owner, end int, next loglet.Config) (chain.Chain, api.Errno) {
	n := len(c.Parts)
	switch {
	case !plainMayBe(c, nodes):
		return chain.Chain{}, api.ErrArg
	case n == api.MaxChain && end != c.Parts[n-1].First:
		return chain.Chain{}, api.ErrFull
	case n == 0 && end != 0:
		return chain.Chain{}, api.ErrArg
	case n > 0 && (!within(end, c.Parts[n-1].First, c.Parts[n-1].First+api.MaxSlots) || end < c.Trim):
		return chain.Chain{}, api.ErrArg
	}
	d := like(c)
	d.Owner = owner
	switch {
	case n > 0 && c.Parts[n-1].First == end:
		d.Parts = d.Parts[:n-1]
	case n == 1 && c.Trim == end:
		d.Parts = nil
	}
	d.Parts = append(d.Parts, part(end, next))
	if !plainMayBe(d, nodes) {
		return chain.Chain{}, api.ErrArg
	}
	return d, api.OK
}

func plainCut(c chain.Chain, nodes, addr int) (chain.Chain, api.Errno) {
	if !plainMayBe(c, nodes) || addr < c.Trim || addr > last(c) {
		return chain.Chain{}, api.ErrArg
	}
	d := chain.Chain{Owner: c.Owner, Trim: addr}
	for i, p := range c.Parts {
		if i == len(c.Parts)-1 || c.Parts[i+1].First > addr {
			d.Parts = append(d.Parts, p)
		}
	}
	return d, api.OK
}

// dice has the same throws at each run.
type dice struct{ *rand.Rand }

func diceOf(seed uint64) dice { return dice{rand.New(rand.NewPCG(seed, 10))} }

func pick[T any](d dice, list ...T) T { return list[d.IntN(len(list))] }

func (d dice) nodes(nodes int) []int {
	list := d.Perm(min(nodes, 9))
	return list[:1+d.IntN(len(list))]
}

// chain is one that may be, of so many nodes.
func (d dice) chain(nodes int) chain.Chain {
	c := chain.Chain{Owner: d.IntN(16)}
	first := pick(d, 0, 0, d.IntN(9), d.IntN(api.MaxNumber), top-d.IntN(9), top-full)
	n := pick(d, 0, 1, 1, 2, 2, 3, 5, 9, 63, 64)
	if n > 1 {
		first = min(first, top-1) // the second part begins behind it
	}
	for i := range n {
		step := pick(d, 0, 1, 2, 7, d.IntN(full), full-1, full)
		if i == 1 {
			step = max(step, 1)
		}
		if i > 0 {
			first = min(first+step, top)
		}
		c.Parts = append(c.Parts, part(first, of(i*7, d.nodes(nodes)...)))
	}
	d.Shuffle(len(c.Parts), func(i, j int) {
		c.Parts[i].Config, c.Parts[j].Config = c.Parts[j].Config, c.Parts[i].Config
	})
	c.Trim = d.trim(c)
	return c
}

func (d dice) trim(c chain.Chain) int {
	switch len(c.Parts) {
	case 0:
		return 0
	case 1:
		return min(top, c.Parts[0].First+pick(d, 0, 0, 1, d.IntN(full), full))
	}
	room := c.Parts[1].First - c.Parts[0].First
	return c.Parts[0].First + pick(d, 0, d.IntN(room), room-1)
}

// number is one near some number of c's, or far from all.
func (d dice) number(c chain.Chain) int {
	near := []int{0, c.Trim, last(c), last(c), last(c) + full}
	if n := len(c.Parts); n > 0 {
		p := c.Parts[d.IntN(n)]
		near = append(near, p.First, p.First, p.First+full, p.Config.ID, c.Parts[0].First)
	}
	if d.IntN(12) == 0 {
		return pick(d, math.MinInt, math.MinInt+1, -1, 15, 16, top, api.MaxNumber, math.MaxInt-1, math.MaxInt)
	}
	return pick(d, near...) + pick(d, 0, 0, 0, -1, 1, 2)
}

// spoiled is c with something changed, so that it may be, or not.
func (d dice) spoiled(c chain.Chain) chain.Chain {
	c = like(c)
	n := len(c.Parts)
	if n == 0 {
		return pick(d, chain.Chain{Owner: d.number(c)}, chain.Chain{Trim: d.number(c)}, with(of(d.number(c), 0)))
	}
	p := &c.Parts[d.IntN(n)]
	switch d.IntN(8) {
	case 0:
		c.Owner = d.number(c)
	case 1, 2:
		c.Trim = d.number(c)
	case 3, 4:
		p.First = d.number(c)
	case 5:
		p.Config.ID = d.number(c)
	case 6:
		p.Config.Nodes[d.IntN(len(p.Config.Nodes))] += pick(d, -1, 1, 9)
	case 7:
		c.Parts = append(c.Parts, part(last(c), of(d.number(c), 0)))
	}
	return c
}

func (d dice) config(c chain.Chain, nodes int) loglet.Config {
	if d.IntN(8) == 0 {
		return of(d.number(c), pick(d, 0, -1, nodes, nodes-1))
	}
	return of(1000+d.IntN(9), d.nodes(nodes)...)
}

func TestAnyCallsOfAnyChain(t *testing.T) {
	d := diceOf(1)
	heard := map[api.Errno]int{}
	found := 0
	for range 60000 {
		nodes := pick(d, 1, 2, 3, 5, 9, 20, 256)
		c := d.chain(nodes)
		for range d.IntN(3) {
			c = d.spoiled(c)
		}
		nodes = pick(d, nodes, nodes, nodes, nodes, nodes+1, nodes-1, 257, -1)
		checkPlainBytes(t, c, nodes)
		for range 3 {
			found += checkPlainPlaces(t, c, d.number(c), d.IntN(70)-3)
			heard[checkPlainChange(t, d, c, nodes)]++
		}
		if t.Failed() {
			t.FailNow()
		}
	}
	if found < 10000 || heard[api.OK] < 10000 || heard[api.ErrArg] < 10000 || heard[api.ErrFull] < 100 {
		t.Errorf("found %d, heard %v: that is too little", found, heard)
	}
}

func checkPlainBytes(t *testing.T, c chain.Chain, nodes int) {
	t.Helper()
	checkCheck(t, c, nodes, plainCheck(c, nodes))
	b, e := plainEncode(c, nodes)
	checkEncode(t, c, nodes, b, e)
	raw, room := plainBytes(c)
	switch {
	case nodes > 256:
		checkNoChain(t, raw, nodes, api.ErrSize)
	case e == api.OK:
		checkDecode(t, b, nodes, c, api.OK)
	case room:
		checkNoChain(t, raw, nodes, api.ErrForm)
	}
}

// checkPlainPlaces answers 1, if the address was found.
func checkPlainPlaces(t *testing.T, c chain.Chain, addr, part int) int {
	t.Helper()
	checkEnd(t, c, part, plainEnd(c, part))
	if p, q, ok := plainFind(c, addr); ok {
		checkFind(t, c, addr, p, q)
		return 1
	}
	checkNotFound(t, c, addr)
	return 0
}

// checkPlainChange answers what the Extend answered.
func checkPlainChange(t *testing.T, d dice, c chain.Chain, nodes int) api.Errno {
	t.Helper()
	at := d.number(c)
	shorter, e := plainCut(c, nodes, at)
	checkCut(t, c, nodes, at, shorter, e)
	owner := pick(d, 0, 1, 15, d.IntN(16), d.IntN(16), -1, 16)
	end, next := d.number(c), d.config(c, max(1, nodes))
	longer, e := plainExtend(c, nodes, owner, end, next)
	checkExtend(t, c, nodes, owner, end, next, longer, e)
	return e
}

func TestAnyBytes(t *testing.T) {
	d := diceOf(2)
	some := 0
	for range 60000 {
		b := mustEncode(t, d.chain(3), 3)
		for range d.IntN(4) {
			b[d.IntN(len(b))] = byte(pick(d, 0, 1, 2, 3, 4, 15, 16, 255, d.IntN(256)))
		}
		switch d.IntN(8) {
		case 0:
			b = b[:d.IntN(len(b))]
		case 1:
			b = slices.Insert(b, d.IntN(len(b)), byte(d.IntN(4)))
		}
		checkReading(t, b)
		if _, e := chain.Decode(b, 3); e == api.OK {
			some++
		}
	}
	if some < 1000 || some > 59000 {
		t.Errorf("%d of the bytes are a chain", some)
	}
}
