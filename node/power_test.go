package node_test

import (
	"math"
	"slices"
	"testing"

	"gazette/api"
	"gazette/node"
)

// prepared has a loglet 1 with slots, out of which each request of writers makes something else.
func prepared(t *testing.T) *node.Node {
	t.Helper()
	n := mustNew(t, 20)
	checkAsk(t, n, node.Request{Kind: node.Write, Loglet: 1, Data: []byte("a")}, node.Reply{Tail: 1})
	checkAsk(t, n, node.Request{Kind: node.Write, Loglet: 1, Pos: 1, Data: filled(2, 300)}, node.Reply{Tail: 2})
	return n
}

// writer is a request with which a prepared node does so many operations, the last one a Sync.
type writer struct {
	r          node.Request
	operations int
	want       node.Reply
}

func writers() []writer {
	return []writer{
		{node.Request{Kind: node.Write, Loglet: 1, Pos: 2, Data: []byte("c")}, 2, node.Reply{Tail: 3}},
		{node.Request{Kind: node.Write, Loglet: 1, Pos: 2, Data: filled(4, 600)}, 4, node.Reply{Tail: 3}},
		{node.Request{Kind: node.Repair, Loglet: 1, Pos: 3, Data: filled(5, 300)}, 3, node.Reply{Tail: 4}},
		{node.Request{Kind: node.Seal, Loglet: 1}, 2, node.Reply{Tail: 2, Sealed: true}},
		{node.Request{Kind: node.Trim, Loglet: 1, Pos: 1}, 2, node.Reply{Tail: 2}},
	}
}

// everyChoice tells all lists of n choices: nothing of a block stays, its version does, or it is unreadable.
func everyChoice(n int) [][]int {
	lists := [][]int{nil}
	for range n {
		var longer [][]int
		for _, l := range lists {
			for _, c := range []int{0, 1, 9} {
				longer = append(longer, append(slices.Clone(l), c))
			}
		}
		lists = longer
	}
	return lists
}

// P504, P505: the power goes

// TestPowerGoes breaks a request off at each of its operations, and starts again with whatever a crash can leave.
func TestPowerGoes(t *testing.T) {
	before := all(prepared(t))
	for _, w := range writers() {
		n := prepared(t)
		checkAsk(t, n, w.r, w.want)
		after := all(n)
		for fuse := range w.operations {
			for _, choices := range everyChoice(fuse) {
				n := prepared(t)
				n.Cut(fuse)
				checkNothing(t, n, requestBytes(w.r))
				checkUp(t, n, false)
				checkNothing(t, n, requestBytes(w.r))
				checkStart(t, n, choices)
				if fuse == w.operations-1 && !slices.Contains(choices, 0) && !slices.Contains(choices, 9) {
					checkAll(t, n, after)
				} else {
					checkAll(t, n, before)
				}
				checkAsk(t, n, w.r, w.want)
				checkAll(t, n, after)
			}
		}
	}
}

func TestFuseThatIsLongEnough(t *testing.T) {
	for _, w := range writers() {
		n := prepared(t)
		n.Cut(w.operations)
		checkAsk(t, n, w.r, w.want)
		checkUp(t, n, true)
		checkNothing(t, n, requestBytes(node.Request{Kind: node.Seal, Loglet: 9}))
		checkUp(t, n, false)
	}
}

// TestNothingIsAnsweredWithoutPower: also requests that ask nothing of the disk.
func TestNothingIsAnsweredWithoutPower(t *testing.T) {
	n := prepared(t)
	was := all(n)
	n.Cut(0)
	checkNothing(t, n, requestBytes(node.Request{Kind: node.Seal, Loglet: 1}))
	checkSilent(t, n)
	checkStart(t, n, nil)
	checkAll(t, n, was)
}

func checkSilent(t *testing.T, n *node.Node) {
	t.Helper()
	for _, r := range everyKind(1) {
		checkNothing(t, n, requestBytes(r))
	}
	for _, b := range rubbish() {
		checkNothing(t, n, b)
	}
	checkUp(t, n, false)
}

// TestPowerThatGoesUnderTheStore: the node is up till an answer is ErrPower, and Get has none.
func TestPowerThatGoesUnderTheStore(t *testing.T) {
	n := prepared(t)
	n.Cut(1)
	if e := n.Store().Put(1, 2, []byte("c"), false); e != api.ErrPower {
		t.Fatalf("Put: %d, not ErrPower", e)
	}
	checkUp(t, n, true)
	checkStart(t, n, []int{1})
	checkAsk(t, n, node.Request{Kind: node.Read, Loglet: 1}, node.Reply{Tail: 2, Data: []byte("a")})
	checkAsk(t, n, node.Request{Kind: node.Look, Loglet: 1}, node.Reply{Tail: 2})
	checkNothing(t, n, requestBytes(node.Request{Kind: node.Write, Loglet: 1, Data: []byte("a")}))
	checkUp(t, n, false)
	checkStart(t, n, []int{1})
	checkAsk(t, n, node.Request{Kind: node.Read, Loglet: 1, Pos: 2}, node.Reply{Tail: 3, Data: []byte("c")})
}

// P505: Stop, Start, Cut, Store

func TestStop(t *testing.T) {
	n := prepared(t)
	was := all(n)
	for range 2 {
		n.Stop()
		checkSilent(t, n)
	}
	checkStart(t, n, nil)
	checkAll(t, n, was)
	for _, w := range writers() {
		n := prepared(t)
		checkAsk(t, n, w.r, w.want)
		was := all(n)
		n.Stop()
		checkStart(t, n, []int{9, 9, 9, 9})
		checkAll(t, n, was)
	}
}

// TestStartOfANodeThatIsUp: neither the store nor the fuse is another one behind it.
func TestStartOfANodeThatIsUp(t *testing.T) {
	n := prepared(t)
	s, was := n.Store(), all(n)
	n.Cut(1)
	checkStart(t, n, []int{9})
	if n.Store() != s {
		t.Error("Start of a node that is up has opened another store")
	}
	checkAll(t, n, was)
	checkNothing(t, n, requestBytes(node.Request{Kind: node.Seal, Loglet: 1}))
	checkUp(t, n, false)
}

func TestStartGivesThePowerBack(t *testing.T) {
	for _, choices := range [][]int{nil, {}, {0}, {-1}, {1}, {2}, {math.MaxInt}, {math.MinInt, 1, 1}, make([]int, 10000)} {
		n := prepared(t)
		for fuse := range 3 {
			n.Cut(fuse % 2)
			checkNothing(t, n, requestBytes(node.Request{Kind: node.Seal, Loglet: 2 + fuse}))
			checkStart(t, n, choices)
			checkAsk(t, n, node.Request{Kind: node.Write, Loglet: 9, Pos: fuse}, node.Reply{Tail: fuse + 1})
		}
	}
}

func TestCut(t *testing.T) {
	seal := node.Request{Kind: node.Seal, Loglet: 1}
	for _, k := range []int{-1, math.MinInt, 2, math.MaxInt} {
		n := prepared(t)
		n.Cut(0)
		n.Cut(k)
		checkAsk(t, n, seal, node.Reply{Tail: 2, Sealed: true})
	}
	for k := range 2 {
		n := prepared(t)
		n.Cut(-1)
		n.Cut(k)
		checkNothing(t, n, requestBytes(seal))
		checkUp(t, n, false)
	}
}

// TestCutOfANodeThatIsNotUp: its disk's Crash takes the fuse away.
func TestCutOfANodeThatIsNotUp(t *testing.T) {
	seal := node.Request{Kind: node.Seal, Loglet: 1}
	n := prepared(t)
	n.Cut(0)
	n.Stop()
	n.Cut(1)
	checkUp(t, n, false)
	checkStart(t, n, nil)
	checkAsk(t, n, seal, node.Reply{Tail: 2, Sealed: true})
	n.Cut(0)
	checkNothing(t, n, requestBytes(node.Request{Kind: node.Seal, Loglet: 2}))
	n.Cut(0)
	checkStart(t, n, nil)
	checkAsk(t, n, node.Request{Kind: node.Seal, Loglet: 2}, node.Reply{Sealed: true})
}

// TestStoreIsTheNodesOwn: what is put by it is read by a request, and the other way round.
func TestStoreIsTheNodesOwn(t *testing.T) {
	n := prepared(t)
	if e := n.Store().Put(1, 2, []byte("c"), false); e != api.OK {
		t.Fatalf("Put: %d", e)
	}
	checkAsk(t, n, node.Request{Kind: node.Read, Loglet: 1, Pos: 2}, node.Reply{Tail: 3, Data: []byte("c")})
	n.Stop()
	checkStart(t, n, nil)
	checkAsk(t, n, node.Request{Kind: node.Write, Loglet: 1, Pos: 3, Data: []byte("d")}, node.Reply{Tail: 4})
	if b, e := n.Store().Get(1, 3); e != api.OK || string(b) != "d" {
		t.Errorf("Get: %q, %d", b, e)
	}
}
