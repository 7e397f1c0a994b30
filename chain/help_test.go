package chain_test

import (
	"math"
	"slices"
	"strconv"
	"testing"

	"gazette/api"
	"gazette/chain"
	"gazette/loglet"
)

const (
	top  = api.MaxNumber - 1
	full = api.MaxSlots
)

func of(id int, nodes ...int) loglet.Config { return loglet.Config{ID: id, Nodes: nodes} }

func three(id int) loglet.Config { return of(id, 0, 1, 2) }

func part(first int, config loglet.Config) chain.Part {
	return chain.Part{First: first, Config: config}
}

// laid is a chain of the owner 1, on three nodes; its loglets' IDs are 1, 2 and so on.
func laid(trim int, firsts ...int) chain.Chain {
	c := chain.Chain{Owner: 1, Trim: trim}
	for i, first := range firsts {
		c.Parts = append(c.Parts, part(first, three(i+1)))
	}
	return c
}

func owned(owner int) chain.Chain {
	c := laid(0, 0)
	c.Owner = owner
	return c
}

// spaced has n numbers from 0 on, each step more than the one ahead of it.
func spaced(n, step int) []int {
	list := make([]int, n)
	for i := range list {
		list[i] = i * step
	}
	return list
}

// with is a chain of one part.
func with(config loglet.Config) chain.Chain {
	return chain.Chain{Parts: []chain.Part{part(0, config)}}
}

// like is a copy that shares nothing with c.
func like(c chain.Chain) chain.Chain {
	c.Parts = slices.Clone(c.Parts)
	for i, p := range c.Parts {
		c.Parts[i].Config.Nodes = slices.Clone(p.Config.Nodes)
	}
	return c
}

func same(a, b chain.Chain) bool {
	return a.Owner == b.Owner && a.Trim == b.Trim && slices.EqualFunc(a.Parts, b.Parts, samePart)
}

func samePart(a, b chain.Part) bool {
	return a.First == b.First && a.Config.ID == b.Config.ID && slices.Equal(a.Config.Nodes, b.Config.Nodes)
}

func mustBe(t *testing.T, c chain.Chain, nodes int) {
	t.Helper()
	if e := chain.Check(c, nodes); e != api.OK {
		t.Fatalf("Check(%v, %d): %d", c, nodes, e)
	}
}

func mustEncode(t *testing.T, c chain.Chain, nodes int) []byte {
	t.Helper()
	b, e := chain.Encode(c, nodes)
	if e != api.OK {
		t.Fatalf("Encode(%v, %d): %d", c, nodes, e)
	}
	return b
}

func mustExtend(t *testing.T, c chain.Chain, nodes, owner, end int, next loglet.Config) chain.Chain {
	t.Helper()
	d, e := chain.Extend(c, nodes, owner, end, next)
	if e != api.OK {
		t.Fatalf("Extend(%v, %d, %d, %d, %v): %d", c, nodes, owner, end, next, e)
	}
	return d
}

func mustCut(t *testing.T, c chain.Chain, nodes, addr int) chain.Chain {
	t.Helper()
	d, e := chain.Cut(c, nodes, addr)
	if e != api.OK {
		t.Fatalf("Cut(%v, %d, %d): %d", c, nodes, addr, e)
	}
	return d
}

func checkCheck(t *testing.T, c chain.Chain, nodes int, want api.Errno) {
	t.Helper()
	if e := chain.Check(c, nodes); e != want {
		t.Errorf("Check(%v, %d): %d, not %d", c, nodes, e, want)
	}
}

func checkEncode(t *testing.T, c chain.Chain, nodes int, want []byte, e api.Errno) {
	t.Helper()
	if b, got := chain.Encode(c, nodes); string(b) != string(want) || got != e {
		t.Errorf("Encode(%v, %d): %v, %d, not %v, %d", c, nodes, b, got, want, e)
	}
}

func checkDecode(t *testing.T, b []byte, nodes int, want chain.Chain, e api.Errno) {
	t.Helper()
	if c, got := chain.Decode(b, nodes); !same(c, want) || got != e {
		t.Errorf("Decode(%v, %d): %v, %d, not %v, %d", b, nodes, c, got, want, e)
	}
}

// checkNoChain is of bytes from which nothing can be read.
func checkNoChain(t *testing.T, b []byte, nodes int, e api.Errno) {
	t.Helper()
	checkDecode(t, b, nodes, chain.Chain{}, e)
}

func checkFind(t *testing.T, c chain.Chain, addr, part, pos int) {
	t.Helper()
	if p, q, ok := chain.Find(c, addr); p != part || q != pos || !ok {
		t.Errorf("Find(%v, %d): %d, %d, %v, not %d, %d", c, addr, p, q, ok, part, pos)
	}
}

func checkNotFound(t *testing.T, c chain.Chain, addr int) {
	t.Helper()
	if p, q, ok := chain.Find(c, addr); p != 0 || q != 0 || ok {
		t.Errorf("Find(%v, %d): %d, %d, %v, and it is not there", c, addr, p, q, ok)
	}
}

func checkEnd(t *testing.T, c chain.Chain, part, want int) {
	t.Helper()
	if end := chain.End(c, part); end != want {
		t.Errorf("End(%v, %d): %d, not %d", c, part, end, want)
	}
}

func checkExtend(t *testing.T, c chain.Chain, nodes, owner, end int, next loglet.Config, want chain.Chain, e api.Errno) {
	t.Helper()
	if d, got := chain.Extend(c, nodes, owner, end, next); !same(d, want) || got != e {
		t.Errorf("Extend(%v, %d, %d, %d, %v): %v, %d, not %v, %d", c, nodes, owner, end, next, d, got, want, e)
	}
}

// checkEnds extends c by the owner 2 and a loglet 100, which may be.
func checkEnds(t *testing.T, c chain.Chain, end int, e api.Errno) {
	t.Helper()
	if _, got := chain.Extend(c, 3, 2, end, three(100)); got != e {
		t.Errorf("Extend(%v, end %d): %d, not %d", c, end, got, e)
	}
}

func checkCut(t *testing.T, c chain.Chain, nodes, addr int, want chain.Chain, e api.Errno) {
	t.Helper()
	if d, got := chain.Cut(c, nodes, addr); !same(d, want) || got != e {
		t.Errorf("Cut(%v, %d, %d): %v, %d, not %v, %d", c, nodes, addr, d, got, want, e)
	}
}

// badNumbers may be neither a Trim nor a First.
func badNumbers() []int {
	return []int{-1, api.MaxNumber, api.MaxNumber + 1, math.MinInt, math.MaxInt}
}

// good are chains that may be, of three nodes, with the edges of each part.
func good() []chain.Chain {
	list := []chain.Chain{
		{},
		{Parts: []chain.Part{}},
		{Owner: 15},
		owned(0),
		owned(1),
		owned(15),
		with(of(0, 0)),
		with(of(top, 2)),
		with(of(9, 2, 0, 1)),
		with(of(9, 1, 0)),
		laid(full-1, 0),
		laid(full, 0),
		laid(5, 5),
		laid(5+full, 5),
		laid(top, top),
		laid(top, top-full),
		laid(top-1, top-1, top),
		laid(0, 0, 1),
		laid(0, 0, full),
		laid(full-1, 0, full),
		laid(6, 0, 7),
		laid(7, 7, 8, 8, 8),
		laid(3, 0, 7, 7, 7+full, 9+full),
		laid(0, spaced(api.MaxChain, 1)...),
		laid(0, spaced(api.MaxChain, full)...),
		laid(full-1, spaced(api.MaxChain-1, full)...),
		{Owner: 3, Trim: 4, Parts: []chain.Part{part(2, of(8, 2)), part(9, of(7, 0, 1)), part(11, of(5, 1, 2, 0))}},
	}
	return list
}

// bad are chains that may not be, of three nodes; each has one thing that is wrong.
func bad() map[string]chain.Chain {
	again := laid(0, 0, 7, 9)
	again.Parts[2].Config.ID = 1
	near := laid(0, 0, 7)
	near.Parts[1].Config.ID = 1
	wrongLast := laid(0, 0, 7)
	wrongLast.Parts[1].Config.Nodes = []int{0, 3}
	all := map[string]chain.Chain{
		"Owner -1":                          owned(-1),
		"Owner 16":                          owned(16),
		"Owner of a byte more":              owned(256),
		"least Owner":                       owned(math.MinInt),
		"greatest Owner":                    owned(math.MaxInt),
		"Owner 16 without Parts":            {Owner: 16},
		"Trim without Parts":                {Trim: 1},
		"Trim -1 without Parts":             {Trim: -1},
		"Trim MaxNumber":                    laid(api.MaxNumber, top),
		"Trim MaxNumber, an elder part":     laid(api.MaxNumber, api.MaxNumber-full),
		"one part more than MaxChain":       laid(0, spaced(api.MaxChain+1, 1)...),
		"parts of a byte and one more":      laid(0, spaced(257, 1)...),
		"ID -1":                             with(three(-1)),
		"ID MaxNumber":                      with(three(api.MaxNumber)),
		"no nodes":                          with(of(1)),
		"a node below 0":                    with(of(1, 0, -1)),
		"a node that is not there":          with(of(1, 3)),
		"a node twice":                      with(of(1, 2, 0, 2)),
		"ten nodes":                         with(of(1, spaced(10, 1)...)),
		"a wrong Config behind a right one": wrongLast,
		"two of one ID":                     near,
		"two of one ID, one between":        again,
		"First -1":                          laid(0, -1),
		"First -1 with two parts":           laid(0, -1, 5),
		"First MaxNumber":                   laid(top, top, api.MaxNumber),
		"a First below the one ahead":       laid(0, 0, 7, 6),
		"the second First below the first":  laid(5, 5, 4),
		"a First too far":                   laid(0, 0, full+1),
		"the third First too far":           laid(0, 0, 7, 8+full),
		"Trim just below the first First":   laid(4, 5),
		"Trim just below, two parts":        laid(4, 5, 7),
		"Trim at the second First":          laid(7, 0, 7),
		"Trim above the second First":       laid(8, 0, 7, 9),
		"Trim at the last First":            laid(9, 0, 7, 9),
		"Trim behind the last one's room":   laid(full+1, 0),
		"Trim behind it, a later First":     laid(6+full, 5),
		"first and second First are equal":  laid(7, 7, 7),
		"first two equal, a third":          laid(7, 7, 7, 9),
	}
	for _, n := range badNumbers() {
		all["Trim "+strconv.Itoa(n)] = laid(n, 0)
		all["one First "+strconv.Itoa(n)] = laid(0, n)
		all["second First "+strconv.Itoa(n)] = laid(0, 0, n)
		all["Trim and First "+strconv.Itoa(n)] = laid(n, n)
	}
	return all
}
