package vlog_test

import (
	"bytes"
	"fmt"
	"math"
	"slices"
	"testing"

	"gazette/acceptor"
	"gazette/api"
	"gazette/chain"
	"gazette/loglet"
	"gazette/node"
	"gazette/vlog"
)

// P1103, P1109

func TestAppend(t *testing.T) {
	l := mustLink(t, 3, 3)
	g := mustOpen(t, l, 0, 1, 0)
	mustAppend(t, g, "a", "", "c")
	h := mustOpen(t, l, 0, 2, 3)
	mustAppend(t, h, "d", "e")
	for i, n := range l.Loglets.Nodes {
		for pos, want := range []string{"d", "e"} {
			if b, e := n.Store().Get(number(0, 1, 2), pos); string(b) != want || e != api.OK {
				t.Errorf("the node %d has at the place %d %q, %d", i, pos, b, e)
			}
		}
	}
	checkReads(t, h, 0, "a", "", "c", "d", "e")
}

// TestAppendMessageByMessage: a Write of the last part's loglet, to each of its nodes, and nothing to acceptors.
func TestAppendMessageByMessage(t *testing.T) {
	l := mustLink(t, 4, 3)
	mustAppend(t, mustOpen(t, l, 3, 1, 0), "a", "b")
	g := mustOpen(t, l, 3, 2, 2)
	mustAppend(t, g, "c")
	luck(l.Loglets.Net, late, 3)
	luck(l.Register.Net, lost, 9)
	checkNoAppend(t, g, "d", api.ErrLost)
	r := node.Request{Kind: node.Write, Loglet: number(3, 1, 2), Pos: 1, Data: []byte("d")}
	checkLate(t, l.Loglets.Net, sent{1, r}, sent{2, r}, sent{3, r})
	if l.Register.Net.Left() != 9 {
		t.Error("acceptors were asked")
	}
}

func TestAppendOfMuch(t *testing.T) {
	l := mustLink(t, 3, 3)
	g := mustOpen(t, l, 0, 1, 0)
	was := world(l)
	for _, size := range []int{maxData + 1, maxData + 2, api.MaxBytes, api.MaxBytes + 1, 1 << 20} {
		checkNoAppend(t, g, string(make([]byte, size)), api.ErrSize)
		checkLooks(t, g, 0, 0, false)
	}
	checkWorld(t, l, was)
	much := string(bytes.Repeat([]byte("x"), maxData))
	mustAppend(t, g, much)
	checkRead(t, g, 0, much)
	h := mustOpen(t, l, 0, 2, 1)
	checkRead(t, h, 0, much)
	checkNoAppend(t, g, much+"x", api.ErrSize) // it does not know yet
	checkMine(t, g, api.ErrOwner)
	checkNoAppend(t, g, much+"x", api.ErrOwner)
}

// spared loses every third message to each node: a loglet that is full leaves room for its Seal.
func spared(l *vlog.Link, appends int) {
	for i := range appends {
		one := []int{comes, comes, comes}
		one[i%3] = lost
		l.Loglets.Net.Luck(one)
	}
}

func TestTheLastPlaceOfALoglet(t *testing.T) {
	l := mustLink(t, 0, 3)
	for range 3 {
		l.Loglets.Nodes = append(l.Loglets.Nodes, mustNode(t, api.MaxBlocks))
	}
	mustAppend(t, mustOpen(t, l, 0, 1, 0), "a")
	g := mustOpen(t, l, 0, 1, 1)
	spared(l, full)
	for i := range full {
		if addr, e := g.Append([]byte{byte(i)}); addr != 1+i || e != api.OK {
			t.Fatalf("Append: %d, %d, not %d", addr, e, 1+i)
		}
	}
	was := world(l)
	for range 2 {
		checkNoAppend(t, g, "x", api.ErrOver)
		checkNoAppend(t, g, string(make([]byte, maxData+1)), api.ErrSize)
	}
	checkWorld(t, l, was)
	checkLooks(t, g, 1+full, 0, false)
	checkMine(t, g, api.OK)
	checkRead(t, g, full, "\xff")
	checkNoRead(t, g, full+1, api.ErrNone)
	h := mustOpen(t, l, 0, 2, full+1)
	mustAppend(t, h, "x")
	for _, addr := range []int{1, 2, 1000, full - 1, full} {
		checkRead(t, h, addr, string([]byte{byte(addr - 1)}))
	}
	checkReads(t, h, full, "\xff", "x")
	checkNoAppend(t, g, "x", api.ErrOver)
	checkMine(t, g, api.ErrOwner)
	checkNoAppend(t, g, "x", api.ErrOwner)
}

// TestAnAppendThatHasAnError: whichever one it is, the Log is lost.
func TestAnAppendThatHasAnError(t *testing.T) {
	for want, befall := range map[api.Errno]func(l *vlog.Link){
		api.ErrSeal: func(l *vlog.Link) { loglet.Seal(l.Loglets, three(0, 1, 2)) },
		api.ErrTwice: func(l *vlog.Link) {
			for i := range 3 {
				write(t, l, i, number(0, 1, 2), 1, "other")
			}
		},
		api.ErrTrim: func(l *vlog.Link) { loglet.Trim(l.Loglets, three(0, 1, 2), 2) },
		api.ErrFull: func(l *vlog.Link) {
			for i, n := range l.Loglets.Nodes {
				for pos := range n.Store().Free() {
					write(t, l, i, 1, pos, "")
				}
			}
		},
		api.ErrLost: func(l *vlog.Link) { luck(l.Loglets.Net, comes, 1, unanswered, 1, lost, 1) },
	} {
		l := mustLink(t, 3, 3)
		mustAppend(t, mustOpen(t, l, 0, 1, 0), "a")
		g := mustOpen(t, l, 0, 2, 1)
		mustAppend(t, g, "b")
		checkTrim(t, g, 1, api.OK)
		befall(l)
		checkNoAppend(t, g, "c", want)
		checkOver(t, l, g, 2, 1)
	}
}

// TestNodesThatAreDown: as long as more than half of a loglet's nodes answer, all goes on.
func TestNodesThatAreDown(t *testing.T) {
	l := mustLink(t, 3, 3)
	g := mustOpen(t, l, 0, 1, 0)
	stop(l.Loglets.Nodes, 0)
	stop(l.Register.Acceptors, 0)
	mustAppend(t, g, "a")
	h := mustOpen(t, l, 0, 2, 1)
	start(l.Loglets.Nodes, 0)
	start(l.Register.Acceptors, 0)
	stop(l.Loglets.Nodes, 1)
	stop(l.Register.Acceptors, 1)
	mustAppend(t, h, "b")
	checkMine(t, h, api.OK)
	checkReads(t, h, 0, "a", "b")
	checkTrim(t, h, 1, api.OK)
	stop(l.Loglets.Nodes, 0)
	checkNoAppend(t, h, "c", api.ErrLost)
	start(l.Loglets.Nodes, 0, 1)
	k := mustOpen(t, l, 0, 1, 3)
	checkReads(t, k, 1, "b", "c")
}

// P1104

// shelf is a log of the key 4 with the parts 0, 3, 4, 7, and the last one from 9 on; next is 11. Each entry is its address as a text.
func shelf(t *testing.T, acceptors int) (*vlog.Link, *vlog.Log) {
	t.Helper()
	l := mustLink(t, 3, acceptors)
	var g *vlog.Log
	for i, first := range []int{0, 3, 4, 7, 9} {
		g = mustOpen(t, l, 4, i+1, first)
		for g.Next() < []int{3, 4, 7, 9, 11}[i] {
			mustAppend(t, g, fmt.Sprint(g.Next()))
		}
	}
	return l, g
}

// shelfChain is its chain behind a Trim.
func shelfChain(trim int, firsts ...int) chain.Chain {
	c := chain.Chain{Owner: 5, Trim: trim}
	for i, first := range []int{0, 3, 4, 7, 9} {
		if slices.Contains(firsts, first) {
			c.Parts = append(c.Parts, chain.Part{First: first, Config: three(4, i, i+1)})
		}
	}
	return c
}

func TestReadOfEveryAddress(t *testing.T) {
	l, g := shelf(t, 3)
	checkChain(t, l, 4, 5, shelfChain(0, 0, 3, 4, 7, 9))
	for addr := range 11 {
		checkRead(t, g, addr, fmt.Sprint(addr))
	}
	for _, addr := range []int{11, 12, 9 + full, math.MaxInt} {
		checkNoRead(t, g, addr, api.ErrNone)
	}
	for _, addr := range []int{math.MinInt, -2, -1} {
		checkNoRead(t, g, addr, api.ErrArg)
	}
	checkTrim(t, g, 5, api.OK)
	for addr := range 11 {
		if addr < 5 {
			checkNoRead(t, g, addr, api.ErrTrim)
		} else {
			checkRead(t, g, addr, fmt.Sprint(addr))
		}
	}
	checkNoRead(t, g, -1, api.ErrArg)
	checkNoRead(t, g, 11, api.ErrNone)
}

func TestReadOfAnEmptyLog(t *testing.T) {
	l := mustLink(t, 3, 3)
	g := mustOpen(t, l, 0, 1, 0)
	was := world(l)
	for _, addr := range []int{0, 1, full - 1, full, math.MaxInt} {
		checkNoRead(t, g, addr, api.ErrNone)
	}
	checkNoRead(t, g, -1, api.ErrArg)
	checkWorld(t, l, was)
}

// TestReadMessageByMessage: the nodes of the address's part are asked, one by one, and no acceptor.
func TestReadMessageByMessage(t *testing.T) {
	l, g := shelf(t, 3)
	luck(l.Loglets.Net, late, 2, comes, 1)
	luck(l.Register.Net, lost, 9)
	checkRead(t, g, 5, "5")
	r := node.Request{Kind: node.Read, Loglet: number(4, 2, 3), Pos: 1}
	checkLate(t, l.Loglets.Net, sent{2, r}, sent{0, r})
	if l.Register.Net.Left() != 9 {
		t.Error("acceptors were asked")
	}
}

// TestReadsErrors: they are the loglet's, and the Log is not lost.
func TestReadsErrors(t *testing.T) {
	l, g := shelf(t, 3)
	stop(l.Loglets.Nodes, 0, 1, 2)
	for addr := range 11 {
		checkNoRead(t, g, addr, api.ErrLost)
	}
	checkNoRead(t, g, 11, api.ErrNone)
	start(l.Loglets.Nodes, 1)
	checkRead(t, g, 6, "6")
	start(l.Loglets.Nodes, 0, 2)
	loglet.Trim(l.Loglets, three(4, 2, 3), 2)
	checkNoRead(t, g, 5, api.ErrTrim)
	checkRead(t, g, 6, "6")
	checkLooks(t, g, 11, 0, false)
	mustAppend(t, g, "11")
}

// TestAnElderLogReads: one that does not know that it is not the owner any more reads what it knows of.
func TestAnElderLogReads(t *testing.T) {
	l, g := shelf(t, 3)
	h := mustOpen(t, l, 4, 6, 11)
	mustAppend(t, h, "11")
	checkReads(t, g, 0, "0", "1", "2", "3", "4", "5", "6", "7", "8", "9", "10")
	checkNoRead(t, g, 11, api.ErrNone)
	checkTrim(t, h, 11, api.OK)
	checkNoRead(t, g, 10, api.ErrTrim)
	checkLooks(t, g, 11, 0, false)
}

// P1105

func TestMine(t *testing.T) {
	l, g := shelf(t, 3)
	was := world(l)
	for range 3 {
		checkMine(t, g, api.OK)
	}
	checkWorld(t, l, was)
	mustAppend(t, g, "11")
	checkTrim(t, g, 4, api.OK)
	checkMine(t, g, api.OK)
	other := mustOpen(t, l, 3, 1, 0)
	checkMine(t, g, api.OK)
	checkMine(t, other, api.OK)
	h := mustOpen(t, l, 4, 5, 12) // with the same id
	checkMine(t, h, api.OK)
	checkLooks(t, g, 12, 4, false)
	checkMine(t, g, api.ErrOwner)
	checkOver(t, l, g, 12, 4)
	checkMine(t, h, api.OK)
}

func TestMineWithoutEnoughAcceptors(t *testing.T) {
	l, g := shelf(t, 3)
	stop(l.Register.Acceptors, 1, 2)
	checkMine(t, g, api.ErrLost)
	checkLooks(t, g, 11, 0, false)
	checkRead(t, g, 0, "0")
	mustAppend(t, g, "11")
	start(l.Register.Acceptors, 2)
	checkMine(t, g, api.OK)
	l.Register.Acceptors = nil
	checkMine(t, g, api.ErrArg)
	checkLooks(t, g, 12, 0, false)
}

// TestMineFindsAnOpenThatNobodyWasToldOf: the register has it from then on.
func TestMineFindsAnOpenThatNobodyWasToldOf(t *testing.T) {
	l := mustLink(t, 3, 3)
	g := mustOpen(t, l, 0, 1, 0)
	luck(l.Register.Net, comes, 9, lost, 2, comes, 1, lost, 100)
	checkNoOpen(t, l, 0, 2, api.ErrLost)
	calm(l.Register.Net)
	luck(l.Register.Net, comes, 2, lost, 1)
	checkMine(t, g, api.OK)
	checkMine(t, g, api.ErrOwner)
	checkOver(t, l, g, 0, 0)
}

// P1106

// checkGone looks at which of the shelf's parts the nodes have given up.
func checkGone(t *testing.T, l *vlog.Link, firsts ...int) {
	t.Helper()
	for i, first := range []int{0, 3, 4, 7, 9} {
		want := 0
		if slices.Contains(firsts, first) {
			want = full
		}
		for k, n := range l.Loglets.Nodes {
			if got := n.Store().Trimmed(number(4, i, i+1)); got != want {
				t.Errorf("the node %d has trimmed the part from %d on up to %d, not %d", k, first, got, want)
			}
		}
	}
}

func TestTrimOfEveryAddress(t *testing.T) {
	for addr := -1; addr <= 12; addr++ {
		l, g := shelf(t, 3)
		was := world(l)
		checkTrim(t, g, math.MinInt, api.ErrArg)
		checkTrim(t, g, math.MaxInt, api.ErrArg)
		if addr < 0 || addr > 11 {
			checkTrim(t, g, addr, api.ErrArg)
			checkWorld(t, l, was)
			checkLooks(t, g, 11, 0, false)
			continue
		}
		checkTrim(t, g, addr, api.OK)
		trim := min(addr, 9)
		var gone, kept []int
		for i, first := range []int{0, 3, 4, 7, 9} {
			if i < 4 && []int{3, 4, 7, 9}[i] <= trim {
				gone = append(gone, first)
			} else {
				kept = append(kept, first)
			}
		}
		version := 6
		if addr == 0 {
			version = 5
			checkWorld(t, l, was)
		}
		checkLooks(t, g, 11, trim, false)
		checkChain(t, l, 4, version, shelfChain(trim, kept...))
		checkGone(t, l, gone...)
		checkMine(t, g, api.OK)
		mustAppend(t, g, "11")
		h := mustOpen(t, l, 4, 7, 12)
		checkLooks(t, h, 12, trim, false)
		for a := range 12 {
			if a < trim {
				checkNoRead(t, h, a, api.ErrTrim)
			} else {
				checkRead(t, h, a, fmt.Sprint(a))
			}
		}
	}
}

func TestTrimsOneBehindTheOther(t *testing.T) {
	l, g := shelf(t, 3)
	for i, step := range []struct {
		addr, trim int
		kept       []int
	}{
		{1, 1, []int{0, 3, 4, 7, 9}}, {3, 3, []int{3, 4, 7, 9}}, {8, 8, []int{7, 9}}, {11, 9, []int{9}},
	} {
		checkTrim(t, g, step.addr, api.OK)
		checkChain(t, l, 4, 6+i, shelfChain(step.trim, step.kept...))
		was := world(l)
		for addr := range step.trim + 1 {
			checkTrim(t, g, addr, api.OK)
		}
		checkTrim(t, g, 12, api.ErrArg)
		checkTrim(t, g, -1, api.ErrArg)
		checkWorld(t, l, was)
		checkLooks(t, g, 11, step.trim, false)
	}
	checkGone(t, l, 0, 3, 4, 7)
	was := world(l)
	checkTrim(t, g, 10, api.OK)
	checkTrim(t, g, 11, api.OK)
	checkWorld(t, l, was)
	mustAppend(t, g, "11")
	checkReads(t, g, 9, "9", "10", "11")
}

// TestTrimOfOnePart: the last part stays whole.
func TestTrimOfOnePart(t *testing.T) {
	l := mustLink(t, 3, 3)
	g := mustOpen(t, l, 0, 1, 0)
	mustAppend(t, g, "a", "b")
	was := world(l)
	for addr := range 3 {
		checkTrim(t, g, addr, api.OK)
	}
	checkTrim(t, g, 3, api.ErrArg)
	checkWorld(t, l, was)
	checkLooks(t, g, 2, 0, false)
	checkReads(t, g, 0, "a", "b")
}

// TestTrimMessageByMessage: the register first; then the parts that went, from the first one on.
func TestTrimMessageByMessage(t *testing.T) {
	l, g := shelf(t, 3)
	luck(l.Loglets.Net, late, 6)
	// Query, Prepare, Accept, Learn, each to three.
	if n := used(l.Register.Net, func() { checkTrim(t, g, 6, api.OK) }); n != 4*3 {
		t.Errorf("%d messages are sent to acceptors", n)
	}
	a := node.Request{Kind: node.Trim, Loglet: number(4, 0, 1), Pos: full}
	b := node.Request{Kind: node.Trim, Loglet: number(4, 1, 2), Pos: full}
	checkLate(t, l.Loglets.Net, sent{0, a}, sent{1, a}, sent{2, a}, sent{1, b}, sent{2, b}, sent{0, b})
	checkGone(t, l)
	checkChain(t, l, 4, 6, shelfChain(6, 4, 7, 9))
	for l.Loglets.Net.Late() > 0 {
		l.Loglets.Deliver(0)
	}
	checkGone(t, l, 0, 3)
	checkReads(t, g, 6, "6", "7", "8", "9", "10")
}

// TestTrimWithoutNodes: what they answer counts for nothing.
func TestTrimWithoutNodes(t *testing.T) {
	l, g := shelf(t, 3)
	stop(l.Loglets.Nodes, 0, 1, 2)
	checkTrim(t, g, 8, api.OK)
	checkLooks(t, g, 11, 8, false)
	checkMine(t, g, api.OK)
	start(l.Loglets.Nodes, 0, 1, 2)
	checkGone(t, l)
	mustAppend(t, g, "11")
	checkNoRead(t, g, 7, api.ErrTrim)
	checkReads(t, mustOpen(t, l, 4, 1, 12), 8, "8", "9", "10", "11")
}

func TestAStaleTrim(t *testing.T) {
	l, g := shelf(t, 3)
	mustOpen(t, l, 4, 6, 11)
	_, before := known(t, l, 4)
	checkTrim(t, g, 12, api.ErrArg)
	checkLooks(t, g, 11, 0, false)
	checkTrim(t, g, 4, api.ErrOwner)
	checkOver(t, l, g, 11, 0)
	checkChain(t, l, 4, 6, before)
	checkGone(t, l)
}

// TestATrimThatIsOvertaken: the next version is found where it was to be made.
func TestATrimThatIsOvertaken(t *testing.T) {
	l, g := shelf(t, 3)
	c := shelfChain(0, 0, 3, 4, 7, 9)
	c.Owner = 9
	accept(t, l, 2, 4, 6, c)
	luck(l.Register.Net, comes, 2, lost, 1)
	checkTrim(t, g, 4, api.ErrOwner)
	checkOver(t, l, g, 11, 0)
	checkChain(t, l, 4, 6, c)
	checkGone(t, l)
}

func TestATrimWhoseSwapHasAnError(t *testing.T) {
	l, g := shelf(t, 3)
	luck(l.Register.Net, lost, 2)
	checkTrim(t, g, 4, api.ErrLost)
	checkOver(t, l, g, 11, 0)
	checkChain(t, l, 4, 5, shelfChain(0, 0, 3, 4, 7, 9))
	checkGone(t, l)

	// One that is accepted, and not told: nobody trims nodes, but it may be found.
	l, g = shelf(t, 3)
	luck(l.Register.Net, comes, 6, unanswered, 3, lost, 100)
	checkTrim(t, g, 4, api.ErrLost)
	calm(l.Register.Net)
	checkOver(t, l, g, 11, 0)
	checkGone(t, l)
	h := mustOpen(t, l, 4, 6, 11)
	checkLooks(t, h, 11, 4, false)
	checkNoRead(t, h, 3, api.ErrTrim)
	checkRead(t, h, 4, "4")

	l, g = shelf(t, 3)
	l.Register.Acceptors = nil
	checkTrim(t, g, 4, api.ErrArg)
	checkOver(t, l, g, 11, 0)
}

// TestATrimBehindTheLinksNodes: a chain of nodes that are no longer there is refused ahead of the Swap.
func TestATrimBehindTheLinksNodes(t *testing.T) {
	l, g := shelf(t, 3)
	nodes := l.Loglets.Nodes
	l.Loglets.Nodes = nodes[:2]
	checkTrim(t, g, 4, api.ErrArg)
	checkLooks(t, g, 11, 0, false)
	l.Loglets.Nodes = slices.Concat(nodes, make([]*node.Node, 254))
	checkTrim(t, g, 4, api.ErrSize)
	checkLooks(t, g, 11, 0, false)
	l.Loglets.Nodes = nodes
	checkTrim(t, g, 4, api.OK)
}

// P1107, P1108

// TestLateMessagesOfAnElderOwner: they come where the Seal has not been, and stand at no address.
func TestLateMessagesOfAnElderOwner(t *testing.T) {
	l := mustLink(t, 3, 3)
	g := mustOpen(t, l, 0, 1, 0)
	mustAppend(t, g, "a")
	luck(l.Loglets.Net, late, 3)
	checkNoAppend(t, g, "b", api.ErrLost)
	luck(l.Loglets.Net, comes, 2, late, 1)
	h := mustOpen(t, l, 0, 2, 1)
	for l.Loglets.Net.Late() > 0 {
		l.Loglets.Net.Double(0)
		l.Loglets.Deliver(0)
		l.Loglets.Deliver(l.Loglets.Net.Late() - 1)
	}
	checkNoRead(t, h, 1, api.ErrNone)
	mustAppend(t, h, "c")
	checkReads(t, h, 0, "a", "c")
	k := mustOpen(t, l, 0, 3, 2)
	checkReads(t, k, 0, "a", "c")
	checkReads(t, h, 0, "a", "c")
}

// TestMessagesThatComeTwice change nothing.
func TestMessagesThatComeTwice(t *testing.T) {
	l := mustLink(t, 3, 3)
	luck(l.Loglets.Net, twice, 1000)
	for range 1000 {
		luck(l.Register.Net, twice, 1, comes, 2)
	}
	mustAppend(t, mustOpen(t, l, 0, 1, 0), "a", "b")
	g := mustOpen(t, l, 0, 2, 2)
	mustAppend(t, g, "c")
	checkTrim(t, g, 2, api.OK)
	checkMine(t, g, api.OK)
	checkRead(t, g, 2, "c")
	checkLooks(t, mustOpen(t, l, 0, 1, 3), 3, 2, false)
}

// TestOneOwner: of many, who each open it when they like, just the last one appends and trims.
func TestOneOwner(t *testing.T) {
	l := mustLink(t, 3, 3)
	var all []*vlog.Log
	for i := range 12 {
		g := mustOpen(t, l, 0, i, 2*i)
		mustAppend(t, g, "a", "b")
		all = append(all, g)
	}
	for i, g := range all[:11] {
		if i%2 == 0 {
			checkNoAppend(t, g, "x", api.ErrSeal)
		} else {
			checkTrim(t, g, g.Next()-2, api.ErrOwner)
		}
		checkOver(t, l, g, 2*i+2, 0)
	}
	last := all[11]
	mustAppend(t, last, "c")
	checkTrim(t, last, 8, api.OK)
	checkMine(t, last, api.OK)
}

// Memory

func TestWhatWasHandedInCanBeChanged(t *testing.T) {
	l := mustLink(t, 3, 3)
	g := mustOpen(t, l, 0, 1, 0)
	roomy := []byte("abcdef")
	if addr, e := g.Append(roomy[:3]); addr != 0 || e != api.OK || string(roomy) != "abcdef" {
		t.Fatalf("%d, %d, %q", addr, e, roomy)
	}
	copy(roomy, "xyzxyz")
	checkRead(t, g, 0, "abc")
	luck(l.Loglets.Net, late, 3)
	late := []byte("late")
	if _, e := g.Append(late); e != api.ErrLost {
		t.Fatal(e)
	}
	copy(late, "none")
	for range 3 {
		l.Loglets.Deliver(0)
	}
	h := mustOpen(t, l, 0, 2, 2)
	checkReads(t, h, 0, "abc", "late")
	if addr, e := h.Append(nil); addr != 2 || e != api.OK {
		t.Fatal(addr, e)
	}
	checkRead(t, h, 2, "")
}

func TestWhatWasAnsweredCanBeChanged(t *testing.T) {
	l, g := shelf(t, 3)
	for addr := range 11 {
		b, _ := g.Read(addr)
		b = b[:cap(b)]
		for i := range b {
			b[i] = 'x'
		}
		checkRead(t, g, addr, fmt.Sprint(addr))
	}
	checkReads(t, mustOpen(t, l, 4, 0, 11), 0, "0", "1", "2", "3", "4", "5", "6", "7", "8", "9", "10")
}

// TestTheRegisterIsAskedByTheLogsId: of two who want the same version each has ballots of its own.
func TestTheRegisterIsAskedByTheLogsId(t *testing.T) {
	for id := range 16 {
		l := mustLink(t, 3, 3)
		mustAppend(t, mustOpen(t, l, 6, 3, 0), "a")
		luck(l.Register.Net, comes, 6, late, 1)
		g := mustOpen(t, l, 6, id, 1)
		luck(l.Register.Net, comes, 3, late, 1)
		checkTrim(t, g, 1, api.OK)
		// Mine finds a version that only one acceptor knows, and agrees on it.
		accept(t, l, 0, 6, 4, chain.Chain{})
		luck(l.Register.Net, comes, 5, late, 1)
		checkMine(t, g, api.ErrOwner)
		for k, acceptorOf := range []int{base, base, base + 2} {
			to, b, ok := l.Register.Net.Message(k)
			a, e := acceptor.GetAsk(b)
			if to != acceptorOf || !ok || e != api.OK || a.Kind != acceptor.Prepare || a.Key != 6 || a.Version != 2+k || a.Ballot != id+1 {
				t.Errorf("the late message %d is to %d, %v, %v", k, to, ok, a)
			}
		}
	}
}
