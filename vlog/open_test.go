package vlog_test

import (
	"fmt"
	"math"
	"testing"

	"gazette/acceptor"
	"gazette/api"
	"gazette/chain"
	"gazette/loglet"
	"gazette/net"
	"gazette/node"
	"gazette/register"
	"gazette/vlog"
)

func TestExamples(t *testing.T) {
	l := mustLink(t, 3, 3)
	g := mustOpen(t, l, 0, 1, 0)
	mustAppend(t, g, "a")
	h := mustOpen(t, l, 0, 2, 1)
	checkRead(t, h, 0, "a")
	checkNoAppend(t, g, "b", api.ErrSeal)
	checkNoAppend(t, g, "b", api.ErrOwner)
}

// P1101

// broken has links that may not be.
func broken(t *testing.T) map[string]*vlog.Link {
	good := func() *vlog.Link { return mustLink(t, 3, 3) }
	all := map[string]*vlog.Link{"nil": nil, "empty": {}}
	change := func(name string, how func(l *vlog.Link)) {
		l := good()
		how(l)
		all[name] = l
	}
	change("no loglets", func(l *vlog.Link) { l.Loglets = nil })
	change("no register", func(l *vlog.Link) { l.Register = nil })
	change("no net of the loglets", func(l *vlog.Link) { l.Loglets.Net = nil })
	change("no net of the register", func(l *vlog.Link) { l.Register.Net = nil })
	change("a net of the loglets that was not made", func(l *vlog.Link) { l.Loglets.Net = &net.Net{} })
	change("a net of the register that was not made", func(l *vlog.Link) { l.Register.Net = &net.Net{} })
	return all
}

func TestLinksThatMayNotBe(t *testing.T) {
	for name, l := range broken(t) {
		for _, key := range []int{-1, 0, 1 << 20} {
			if g, e := vlog.Open(l, key, 1); g != nil || e != api.ErrArg {
				t.Errorf("%s: Open(%d): %v, %d", name, key, g, e)
			}
		}
		if l != nil && l.Register != nil && l.Register.Net.Made() {
			if v, _, e := register.Read(l.Register, 0, 0); v != 0 || e != api.OK {
				t.Errorf("%s: the version is %d, %d", name, v, e)
			}
		}
	}
}

// TestALinkThatIsBrokenLater: the Log is as it was when the link is whole again.
func TestALinkThatIsBrokenLater(t *testing.T) {
	for name, bad := range broken(t) {
		if bad == nil {
			continue
		}
		l := mustLink(t, 3, 3)
		whole := *l
		g := mustOpen(t, l, 0, 1, 0)
		mustAppend(t, g, "a")
		*l = *bad
		if _, e := g.Append([]byte("b")); e != api.ErrArg {
			t.Errorf("%s: Append: %d", name, e)
		}
		checkNoRead(t, g, 0, api.ErrArg)
		checkNoRead(t, g, 7, api.ErrArg)
		checkMine(t, g, api.ErrArg)
		checkTrim(t, g, 0, api.ErrArg)
		checkTrim(t, g, 1, api.ErrArg)
		checkLooks(t, g, 1, 0, false)
		*l = whole
		mustAppend(t, g, "b")
		checkMine(t, g, api.OK)
		checkReads(t, g, 0, "a", "b")
	}
}

func TestLogsThatOpenDidNotMake(t *testing.T) {
	l := mustLink(t, 3, 3)
	mustAppend(t, mustOpen(t, l, 0, 0, 0), "a")
	was := world(l)
	for _, g := range []*vlog.Log{nil, {}, new(vlog.Log), {Link: l}, {Link: &vlog.Link{}}} {
		for _, addr := range []int{math.MinInt, -1, 0, 1, math.MaxInt} {
			checkNoRead(t, g, addr, api.ErrArg)
			checkTrim(t, g, addr, api.ErrArg)
		}
		checkNoAppend(t, g, "a", api.ErrArg)
		checkNoAppend(t, g, string(make([]byte, maxData+1)), api.ErrArg)
		checkMine(t, g, api.ErrArg)
		checkLooks(t, g, 0, 0, false)
	}
	checkWorld(t, l, was)
}

// P1102

func TestKeysAndIds(t *testing.T) {
	l := mustLink(t, 3, 3)
	was := world(l)
	for _, key := range []int{math.MinInt, -1, 1 << 20, 1<<20 + 1, api.MaxNumber, math.MaxInt} {
		for _, id := range []int{-1, 0, 15, 16} {
			checkNoOpen(t, l, key, id, api.ErrArg)
		}
	}
	for _, id := range []int{math.MinInt, -1, 16, 17, math.MaxInt} {
		for _, key := range []int{0, 7, 1<<20 - 1} {
			checkNoOpen(t, l, key, id, api.ErrArg)
		}
	}
	checkWorld(t, l, was)
	for _, key := range []int{0, 1, 1<<20 - 1} {
		for version, id := range []int{0, 15, 7} {
			g := mustOpen(t, l, key, id, version)
			mustAppend(t, g, "a")
			_, c := known(t, l, key)
			if last := c.Parts[len(c.Parts)-1]; c.Owner != id || last.Config.ID != number(key, version, id) {
				t.Errorf("the last part of %d, %d is %v", key, id, last)
			}
		}
	}
}

func TestHowManyNodes(t *testing.T) {
	for _, n := range []int{0, 1, 2, 3, 255, 256, 257, 1000} {
		l := mustLink(t, 0, 3)
		l.Loglets.Nodes = make([]*node.Node, n)
		if n == 0 || n > 256 {
			// Nobody is asked anything.
			luck(l.Register.Net, comes, 10)
			checkNoOpen(t, l, 0, 1, api.ErrArg)
			if l.Register.Net.Left() != 10 {
				t.Errorf("%d nodes: %d messages are sent", n, 10-l.Register.Net.Left())
			}
			continue
		}
		mustOpen(t, l, 0, 1, 0)
	}
}

// TestTheConfigThatComesNext: its number, and its nodes: another one is the first each time.
func TestTheConfigThatComesNext(t *testing.T) {
	want := map[int][]string{
		1: {"[0]", "[0]", "[0]", "[0]"},
		2: {"[0 1]", "[1 0]", "[0 1]", "[1 0]"},
		3: {"[0 1 2]", "[1 2 0]", "[2 0 1]", "[0 1 2]", "[1 2 0]"},
		4: {"[0 1 2]", "[1 2 3]", "[2 3 0]", "[3 0 1]", "[0 1 2]"},
		7: {"[0 1 2]", "[1 2 3]", "[2 3 4]", "[3 4 5]", "[4 5 6]", "[5 6 0]", "[6 0 1]", "[0 1 2]"},
	}
	for nodes, lists := range want {
		l := mustLink(t, nodes, 3)
		for version, list := range lists {
			g := mustOpen(t, l, 5, version+3, version)
			v, c := known(t, l, 5)
			last := c.Parts[len(c.Parts)-1]
			if v != version+1 || last.First != version || last.Config.ID != number(5, version, version+3) || fmt.Sprint(last.Config.Nodes) != list {
				t.Errorf("%d nodes, behind the version %d: %v, not %s", nodes, version, last, list)
			}
			mustAppend(t, g, fmt.Sprint(version))
		}
	}
}

func TestTheConfigOf256Nodes(t *testing.T) {
	l := mustLink(t, 0, 3)
	l.Loglets.Nodes = make([]*node.Node, 256)
	layChain(t, l, 0, 255, chain.Chain{})
	mustOpen(t, l, 0, 9, 0)
	checkChain(t, l, 0, 256, chain.Chain{Owner: 9, Parts: []chain.Part{{First: 0, Config: of(number(0, 255, 9), 255, 0, 1)}}})
}

func TestOpenWithoutParts(t *testing.T) {
	l := mustLink(t, 3, 3)
	if n := used(l.Loglets.Net, func() { mustOpen(t, l, 0, 1, 0) }); n != 0 {
		t.Errorf("there was nothing to seal, and %d messages are sent", n)
	}
	checkChain(t, l, 0, 1, chain.Chain{Owner: 1, Parts: []chain.Part{{First: 0, Config: three(0, 0, 1)}}})
	layChain(t, l, 1, 4, chain.Chain{Owner: 7})
	if n := used(l.Loglets.Net, func() { mustOpen(t, l, 1, 2, 0) }); n != 0 {
		t.Errorf("there was nothing to seal, and %d messages are sent", n)
	}
	checkChain(t, l, 1, 5, chain.Chain{Owner: 2, Parts: []chain.Part{{First: 0, Config: three(1, 4, 2)}}})
}

func TestOpenOfOnePartAndOfSeveral(t *testing.T) {
	l := mustLink(t, 3, 3)
	mustAppend(t, mustOpen(t, l, 2, 1, 0), "a", "b", "c")
	mustAppend(t, mustOpen(t, l, 2, 2, 3), "d")
	mustAppend(t, mustOpen(t, l, 2, 2, 4), "e", "f")
	g := mustOpen(t, l, 2, 15, 6)
	checkChain(t, l, 2, 4, chain.Chain{Owner: 15, Parts: []chain.Part{
		{First: 0, Config: three(2, 0, 1)}, {First: 3, Config: three(2, 1, 2)}, {First: 4, Config: three(2, 2, 2)}, {First: 6, Config: three(2, 3, 15)},
	}})
	checkReads(t, g, 0, "a", "b", "c", "d", "e", "f")
	for version, id := range []int{1, 2, 2} {
		for i, n := range l.Loglets.Nodes {
			if !n.Store().Sealed(number(2, version, id)) {
				t.Errorf("the node %d has not sealed the loglet of the version %d", i, version)
			}
		}
	}
	if l.Loglets.Nodes[0].Store().Sealed(number(2, 3, 15)) {
		t.Error("the last part is sealed")
	}
}

func TestAPartInWhichNothingIsGoes(t *testing.T) {
	l := mustLink(t, 3, 3)
	for version := range 100 {
		mustOpen(t, l, 0, 3, 0)
		checkChain(t, l, 0, version+1, chain.Chain{Owner: 3, Parts: []chain.Part{{First: 0, Config: three(0, version, 3)}}})
	}
	g := mustOpen(t, l, 0, 3, 0)
	mustAppend(t, g, "a")
	mustOpen(t, l, 0, 4, 1)
	mustOpen(t, l, 0, 5, 1)
	checkChain(t, l, 0, 103, chain.Chain{Owner: 5, Parts: []chain.Part{{First: 0, Config: three(0, 100, 3)}, {First: 1, Config: three(0, 102, 5)}}})
}

// TestOpenRepairs: what one node alone has lies on more than half of them behind it.
func TestOpenRepairs(t *testing.T) {
	l := mustLink(t, 3, 3)
	g := mustOpen(t, l, 0, 1, 0)
	mustAppend(t, g, "a")
	luck(l.Loglets.Net, lost, 2, comes, 1)
	checkNoAppend(t, g, "b", api.ErrLost)
	h := mustOpen(t, l, 0, 2, 2)
	for i, n := range l.Loglets.Nodes {
		if b, e := n.Store().Get(number(0, 0, 1), 1); string(b) != "b" || e != api.OK {
			t.Errorf("the node %d has %q, %d", i, b, e)
		}
	}
	stop(l.Loglets.Nodes, 2)
	checkReads(t, h, 0, "a", "b")
}

// TestOpenWithoutTheNodeThatHasIt: what was not answered OK need not be there.
func TestOpenWithoutTheNodeThatHasIt(t *testing.T) {
	l := mustLink(t, 3, 3)
	g := mustOpen(t, l, 0, 1, 0)
	mustAppend(t, g, "a")
	luck(l.Loglets.Net, lost, 2, comes, 1)
	checkNoAppend(t, g, "b", api.ErrLost)
	stop(l.Loglets.Nodes, 2)
	h := mustOpen(t, l, 0, 2, 1)
	mustAppend(t, h, "c")
	start(l.Loglets.Nodes, 2)
	k := mustOpen(t, l, 0, 3, 2)
	checkReads(t, k, 0, "a", "c")
}

// inside is a chain whose Trim lies in its last part, which no Trim of a Log makes.
func inside(first, trim int) chain.Chain {
	return chain.Chain{Trim: trim, Parts: []chain.Part{{First: first, Config: of(1, 0, 1, 2)}}}
}

// TestRepairBeginsAtTheTrim: what is given up may be gone.
func TestRepairBeginsAtTheTrim(t *testing.T) {
	for _, first := range []int{0, 10} {
		l := mustLink(t, 3, 3)
		layChain(t, l, 0, 1, inside(first, first+2))
		write(t, l, 0, 1, 2, "c")
		write(t, l, 0, 1, 3, "d")
		g := mustOpen(t, l, 0, 1, first+4)
		checkLooks(t, g, first+4, first+2, false)
		checkReads(t, g, first+2, "c", "d")
		checkNoRead(t, g, first+1, api.ErrTrim)
		checkNoRead(t, g, first+4, api.ErrNone)
		checkChain(t, l, 0, 2, chain.Chain{Owner: 1, Trim: first + 2, Parts: []chain.Part{{First: first, Config: of(1, 0, 1, 2)}, {First: first + 4, Config: three(0, 1, 1)}}})

		l = mustLink(t, 3, 3)
		layChain(t, l, 0, 1, inside(first, first+1))
		write(t, l, 0, 1, 2, "c")
		checkNoOpen(t, l, 0, 1, api.ErrNone)
		checkChain(t, l, 0, 1, inside(first, first+1))
	}
}

func TestTheTrimAheadOfTheLastPart(t *testing.T) {
	c := chain.Chain{Trim: 3, Parts: []chain.Part{{First: 2, Config: of(1, 0, 1, 2)}, {First: 7, Config: of(2, 0, 1, 2)}}}
	l := mustLink(t, 3, 3)
	layChain(t, l, 0, 1, c)
	write(t, l, 0, 2, 1, "b")
	checkNoOpen(t, l, 0, 1, api.ErrNone)

	l = mustLink(t, 3, 3)
	layChain(t, l, 0, 1, c)
	write(t, l, 0, 2, 1, "b")
	write(t, l, 1, 2, 0, "a")
	g := mustOpen(t, l, 0, 1, 9)
	checkLooks(t, g, 9, 3, false)
	stop(l.Loglets.Nodes, 0)
	checkReads(t, g, 7, "a", "b")
}

func TestTheTrimAtTheEnd(t *testing.T) {
	l := mustLink(t, 3, 3)
	layChain(t, l, 0, 1, inside(10, 12))
	write(t, l, 2, 1, 1, "b")
	g := mustOpen(t, l, 0, 1, 12)
	checkLooks(t, g, 12, 12, false)
	checkChain(t, l, 0, 2, chain.Chain{Owner: 1, Trim: 12, Parts: []chain.Part{{First: 12, Config: three(0, 1, 1)}}})
	mustAppend(t, g, "c")
	checkRead(t, g, 12, "c")
	checkNoRead(t, g, 11, api.ErrTrim)
}

func TestTheTrimBehindTheEnd(t *testing.T) {
	l := mustLink(t, 3, 3)
	layChain(t, l, 0, 1, inside(10, 13))
	write(t, l, 2, 1, 1, "b")
	checkNoOpen(t, l, 0, 1, api.ErrArg)
	checkChain(t, l, 0, 1, inside(10, 13))
}

// Open's errors, step by step

func TestOpenReadsTheRegister(t *testing.T) {
	for _, acceptors := range []int{0, 10, 11} {
		l := mustLink(t, 3, acceptors)
		was := world(l)
		checkNoOpen(t, l, 0, 1, api.ErrArg)
		checkWorld(t, l, was)
	}
	for _, acceptors := range []int{1, 2, 3, 9} {
		mustOpen(t, mustLink(t, 3, acceptors), 0, 1, 0)
	}
	l := mustLink(t, 3, 3)
	mustAppend(t, mustOpen(t, l, 0, 1, 0), "a")
	was := world(l)
	luck(l.Register.Net, lost, 2)
	checkNoOpen(t, l, 0, 1, api.ErrLost)
	checkWorld(t, l, was)
	stop(l.Register.Acceptors, 0, 2)
	if n := used(l.Loglets.Net, func() { checkNoOpen(t, l, 0, 1, api.ErrLost) }); n != 0 {
		t.Errorf("the register did not answer, and %d messages are sent to nodes", n)
	}
	start(l.Register.Acceptors, 0)
	mustOpen(t, l, 0, 1, 1)
}

func TestAValueThatIsNoChain(t *testing.T) {
	ofFive, _ := chain.Encode(chain.Chain{Parts: []chain.Part{{Config: of(1, 0, 4)}}}, 5)
	for _, value := range []string{"", "no chain", string(make([]byte, 7)), string(make([]byte, 9)), string(ofFive)} {
		l := mustLink(t, 3, 3)
		lay(t, l, 0, 1, []byte(value))
		was := world(l)
		checkNoOpen(t, l, 0, 1, api.ErrForm)
		checkWorld(t, l, was)
	}
	l := mustLink(t, 5, 3)
	lay(t, l, 0, 1, ofFive)
	mustOpen(t, l, 0, 1, 0)
}

func TestOpenSeals(t *testing.T) {
	l := mustLink(t, 3, 3)
	mustAppend(t, mustOpen(t, l, 0, 1, 0), "a")
	_, before := known(t, l, 0)
	stop(l.Loglets.Nodes, 0, 2)
	checkNoOpen(t, l, 0, 2, api.ErrLost)
	start(l.Loglets.Nodes, 0)
	luck(l.Loglets.Net, unanswered, 2)
	checkNoOpen(t, l, 0, 2, api.ErrLost)
	checkChain(t, l, 0, 1, before)
	checkRead(t, mustOpen(t, l, 0, 2, 1), 0, "a")
}

func TestOpenWhereNodesAreFull(t *testing.T) {
	l := mustLink(t, 0, 3)
	for range 3 {
		l.Loglets.Nodes = append(l.Loglets.Nodes, mustNode(t, 2))
	}
	g := mustOpen(t, l, 0, 1, 0)
	mustAppend(t, g, "a", "b")
	_, before := known(t, l, 0)
	checkNoOpen(t, l, 0, 2, api.ErrFull)
	checkChain(t, l, 0, 1, before)
	checkReads(t, g, 0, "a", "b")
	checkMine(t, g, api.OK)
}

// TestOpenCannotRepair: each error of a Repair is Open's, and the chain stays.
func TestOpenCannotRepair(t *testing.T) {
	hole := mustLink(t, 3, 3)
	layChain(t, hole, 0, 1, inside(0, 0))
	write(t, hole, 1, 1, 1, "b")
	checkNoOpen(t, hole, 0, 1, api.ErrNone)

	gone := mustLink(t, 3, 3)
	layChain(t, gone, 0, 1, inside(0, 0))
	write(t, gone, 1, 1, 0, "a")
	luck(gone.Loglets.Net, comes, 4, lost, 1, comes, 1)
	checkNoOpen(t, gone, 0, 1, api.ErrLost)
	luck(gone.Loglets.Net, comes, 6, lost, 3)
	checkNoOpen(t, gone, 0, 1, api.ErrLost)

	other := mustLink(t, 3, 3)
	layChain(t, other, 0, 1, inside(0, 0))
	write(t, other, 0, 1, 0, "a")
	write(t, other, 1, 1, 0, "b")
	luck(other.Loglets.Net, comes, 4, lost, 1, comes, 3, lost, 1)
	checkNoOpen(t, other, 0, 1, api.ErrTwice)

	little := mustLink(t, 0, 3)
	for range 3 {
		little.Loglets.Nodes = append(little.Loglets.Nodes, mustNode(t, 2))
	}
	layChain(t, little, 0, 1, inside(0, 0))
	write(t, little, 0, 1, 0, "a")
	write(t, little, 1, 9, 0, "x")
	write(t, little, 2, 9, 0, "x")
	checkNoOpen(t, little, 0, 1, api.ErrFull)

	for _, l := range []*vlog.Link{hole, gone, other, little} {
		checkChain(t, l, 0, 1, inside(0, 0))
	}
	checkRead(t, mustOpen(t, gone, 0, 1, 1), 0, "a")
}

func TestAChainThatIsFull(t *testing.T) {
	l := mustLink(t, 3, 3)
	var g *vlog.Log
	for i := range api.MaxChain {
		g = mustOpen(t, l, 0, i%16, i)
		if i < api.MaxChain-1 {
			mustAppend(t, g, fmt.Sprint(i))
		}
	}
	// In the last part is nothing: it goes.
	g = mustOpen(t, l, 0, 3, 63)
	mustAppend(t, g, "63")
	checkNoOpen(t, l, 0, 4, api.ErrFull)
	version, c := known(t, l, 0)
	if version != 65 || len(c.Parts) != api.MaxChain || c.Owner != 3 {
		t.Errorf("the version is %d, with %d parts, of %d", version, len(c.Parts), c.Owner)
	}
	// It is still the last one's, but sealed: a part less is what lets others go on.
	checkMine(t, g, api.OK)
	for i := range 64 {
		checkRead(t, g, i, fmt.Sprint(i))
	}
	checkTrim(t, g, 1, api.OK)
	h := mustOpen(t, l, 0, 4, 64)
	checkLooks(t, h, 64, 1, false)
	checkNoAppend(t, g, "x", api.ErrSeal)
}

func TestWhatMayNotComeNext(t *testing.T) {
	l := mustLink(t, 3, 3)
	// The number of the loglet that comes next is taken.
	c := chain.Chain{Parts: []chain.Part{{First: 0, Config: of(number(0, 1, 5), 0, 1, 2)}}}
	layChain(t, l, 0, 1, c)
	write(t, l, 0, number(0, 1, 5), 0, "a")
	checkNoOpen(t, l, 0, 5, api.ErrArg)
	checkChain(t, l, 0, 1, c)
	mustOpen(t, l, 0, 6, 1)
	// Its number, or its First, is too great.
	layChain(t, l, 1, 1<<44-1<<20-1, chain.Chain{})
	checkNoOpen(t, l, 1, 15, api.ErrArg)
	layChain(t, l, 2, 1<<44-2<<20-2, chain.Chain{})
	mustOpen(t, l, 2, 15, 0)
	checkNoOpen(t, l, 2, 0, api.ErrArg)
	layChain(t, l, 3, api.MaxNumber-1, chain.Chain{})
	checkNoOpen(t, l, 3, 0, api.ErrArg)
	layChain(t, l, 4, 1, inside(api.MaxNumber-1, api.MaxNumber-1))
	mustOpen(t, l, 4, 0, api.MaxNumber-1)
	layChain(t, l, 5, 1, chain.Chain{Trim: api.MaxNumber - 1, Parts: []chain.Part{{First: api.MaxNumber - 1, Config: of(77, 0, 1, 2)}}})
	write(t, l, 0, 77, 0, "a")
	checkNoOpen(t, l, 5, 0, api.ErrArg)
}

func TestOpenSwaps(t *testing.T) {
	l := mustLink(t, 3, 3)
	mustAppend(t, mustOpen(t, l, 0, 1, 0), "a")
	luck(l.Register.Net, comes, 6, lost, 100)
	checkNoOpen(t, l, 0, 2, api.ErrLost)
	calm(l.Register.Net)
	// One acceptor has accepted what nobody was told of: whoever comes next may find it.
	luck(l.Register.Net, comes, 9, comes, 1, lost, 100)
	checkNoOpen(t, l, 0, 2, api.ErrLost)
	calm(l.Register.Net)
	h := mustOpen(t, l, 0, 3, 1)
	checkChain(t, l, 0, 3, chain.Chain{Owner: 3, Parts: []chain.Part{{First: 0, Config: three(0, 0, 1)}, {First: 1, Config: three(0, 2, 3)}}})
	checkRead(t, h, 0, "a")
}

func TestOpenWhereAcceptorsAreFull(t *testing.T) {
	l := mustLink(t, 3, 0)
	for range 3 {
		l.Register.Acceptors = append(l.Register.Acceptors, mustAcceptor(t, 4))
	}
	g := mustOpen(t, l, 0, 1, 0)
	mustAppend(t, g, "a")
	checkNoOpen(t, l, 0, 2, api.ErrLost)
	checkMine(t, g, api.OK)
	checkRead(t, g, 0, "a")
	checkNoAppend(t, g, "b", api.ErrSeal)
}

// P1102: stale

// hidden has the last of three acceptors know versions, one behind the other, that the others do not know.
func hidden(t *testing.T, l *vlog.Link, versions int) (all []chain.Chain) {
	for v := 1; v <= versions; v++ {
		c := chain.Chain{Owner: 9, Parts: []chain.Part{{First: 10 * v, Config: of(100+v, 0, 1, 2)}}}
		c.Trim = c.Parts[0].First
		accept(t, l, 2, 0, v, c)
		all = append(all, c)
	}
	return all
}

// overtaken is the luck of a turn that does not see the next version till it wants to make it.
func overtaken(l *vlog.Link) {
	luck(l.Register.Net, comes, 2, lost, 1, comes, 2, lost, 1, comes, 9)
}

func TestStaleOnceAndTwice(t *testing.T) {
	for times := range 3 {
		l := mustLink(t, 3, 3)
		all := hidden(t, l, times)
		for range times {
			overtaken(l)
		}
		want := chain.Chain{Owner: 4, Parts: []chain.Part{{First: 10 * times, Config: three(0, times, 4)}}}
		want.Trim = 10 * times
		g := mustOpen(t, l, 0, 4, 10*times)
		checkLooks(t, g, 10*times, 10*times, false)
		if l.Register.Net.Left() != 0 {
			t.Errorf("stale %d times: %d messages were not sent", times, l.Register.Net.Left())
		}
		checkChain(t, l, 0, times+1, want)
		// The loglets of those who were faster are sealed, each in its turn.
		for _, c := range all {
			if id := c.Parts[0].Config.ID; !l.Loglets.Nodes[0].Store().Sealed(id) {
				t.Errorf("stale %d times: %d is not sealed", times, id)
			}
		}
		checkMine(t, g, api.OK)
		mustAppend(t, g, "a")
		checkRead(t, g, 10*times, "a")
	}
}

func TestStaleThreeTimes(t *testing.T) {
	l := mustLink(t, 3, 3)
	hidden(t, l, 4)
	for range 4 {
		overtaken(l)
	}
	checkNoOpen(t, l, 0, 4, api.ErrStale)
	if l.Register.Net.Left() != 15 {
		t.Errorf("%d messages were not sent, not 15", l.Register.Net.Left())
	}
	s := l.Loglets.Nodes[0].Store()
	if !s.Sealed(101) || !s.Sealed(102) || s.Sealed(103) {
		t.Errorf("sealed: %v, %v, %v", s.Sealed(101), s.Sealed(102), s.Sealed(103))
	}
	// The fourth turn is another Open's first one.
	mustOpen(t, l, 0, 4, 40)
	checkChain(t, l, 0, 5, chain.Chain{Owner: 4, Trim: 40, Parts: []chain.Part{{First: 40, Config: three(0, 4, 4)}}})
}

// TestStaleAndThenAnError: a later turn's error is Open's, whichever step has it.
func TestStaleAndThenAnError(t *testing.T) {
	l := mustLink(t, 3, 3)
	hidden(t, l, 1)
	overtaken(l)
	stop(l.Loglets.Nodes, 0, 1)
	checkNoOpen(t, l, 0, 4, api.ErrLost)
	start(l.Loglets.Nodes, 0, 1)
	mustOpen(t, l, 0, 4, 10)

	l = mustLink(t, 3, 3)
	hidden(t, l, 1)
	overtaken(l)
	luck(l.Register.Net, lost, 2)
	checkNoOpen(t, l, 0, 4, api.ErrLost)

	l = mustLink(t, 3, 3)
	b, _ := acceptor.PutAsk(acceptor.Ask{Kind: acceptor.Accept, Version: 1, Ballot: 1, Value: []byte("no chain")})
	l.Register.Acceptors[2].Ask(b)
	overtaken(l)
	checkNoOpen(t, l, 0, 4, api.ErrForm)
}

// TestAnEmptyChainBehindAStaleTurn: nothing of the turn ahead of it is left.
func TestAnEmptyChainBehindAStaleTurn(t *testing.T) {
	l := mustLink(t, 3, 3)
	mustAppend(t, mustOpen(t, l, 0, 1, 0), "a", "b")
	accept(t, l, 2, 0, 2, chain.Chain{Owner: 9})
	overtaken(l)
	g := mustOpen(t, l, 0, 4, 0)
	checkLooks(t, g, 0, 0, false)
	checkChain(t, l, 0, 3, chain.Chain{Owner: 4, Parts: []chain.Part{{First: 0, Config: three(0, 2, 4)}}})
}

// TestOpenMessageByMessage: to whom what is sent, in which order.
func TestOpenMessageByMessage(t *testing.T) {
	l := mustLink(t, 4, 3)
	g := mustOpen(t, l, 3, 1, 0)
	mustAppend(t, g, "a")
	write(t, l, 1, number(3, 0, 1), 1, "b")
	n := l.Loglets.Net
	luck(n, late, 1, comes, 2, comes, 3, late, 1, comes, 2, late, 1, comes, 2)
	mustOpen(t, l, 3, 2, 2)
	id := number(3, 0, 1)
	checkLate(t, n,
		sent{0, node.Request{Kind: node.Seal, Loglet: id}},
		sent{0, node.Request{Kind: node.Read, Loglet: id, Pos: 1}},
		sent{0, node.Request{Kind: node.Repair, Loglet: id, Pos: 1, Data: []byte("b")}},
	)
	if n.Left() != 0 {
		t.Errorf("%d messages were not sent", n.Left())
	}
}

// TestLogsOfManyKeys: they share nodes and acceptors, and nothing else.
func TestLogsOfManyKeys(t *testing.T) {
	l := mustLink(t, 4, 3)
	var all []*vlog.Log
	for key := range 20 {
		all = append(all, mustOpen(t, l, key, key%16, 0))
	}
	for i := range 3 {
		for key, g := range all {
			mustAppend(t, g, fmt.Sprint(key, i))
		}
	}
	for key := range 20 {
		all[key] = mustOpen(t, l, key, (key+1)%16, 3)
	}
	for key, g := range all {
		checkMine(t, g, api.OK)
		checkReads(t, g, 0, fmt.Sprint(key, 0), fmt.Sprint(key, 1), fmt.Sprint(key, 2))
	}
}

// sent is a message, as the tests know it.
type sent struct {
	to      int
	request node.Request
}

// checkLate looks at all late messages.
func checkLate(t *testing.T, n *net.Net, want ...sent) {
	t.Helper()
	if n.Late() != len(want) {
		t.Fatalf("Late: %d, not %d", n.Late(), len(want))
	}
	for k, m := range want {
		to, b, _ := n.Message(k)
		r, _ := node.GetRequest(b)
		if w, _ := node.PutRequest(m.request); to != m.to || string(b) != string(w) {
			t.Errorf("the late message %d is to %d, %v, not to %d, %v", k, to, r, m.to, m.request)
		}
	}
}

// TestOneNetForAll: nodes and acceptors may stand behind one.
func TestOneNetForAll(t *testing.T) {
	n := net.New()
	l := mustLink(t, 3, 3)
	l.Loglets = &loglet.Link{Net: n, Nodes: l.Loglets.Nodes}
	l.Register = &register.Link{Net: n, Acceptors: l.Register.Acceptors, Base: base}
	g := mustOpen(t, l, 0, 1, 0)
	mustAppend(t, g, "a")
	// Query, Seal, Read, Query, Prepare, Accept, Learn, each to three.
	if sent := used(n, func() { mustOpen(t, l, 0, 2, 1) }); sent != 7*3 {
		t.Errorf("%d messages are sent", sent)
	}
}
