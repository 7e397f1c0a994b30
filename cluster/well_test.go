package cluster_test

import (
	"slices"
	"testing"

	"gazette/acceptor"
	"gazette/api"
	"gazette/cluster"
	"gazette/node"
)

// checkAllUp looks at all of three.
func checkAllUp(t *testing.T, c *cluster.Cluster) {
	t.Helper()
	for kind, n := range []int{3, 3, 2} {
		for i := range n {
			if !c.Up(kind, i) {
				t.Errorf("Up(%d, %d): false", kind, i)
			}
		}
	}
}

// P1807

func TestLuckThatWaitsIsTakenAway(t *testing.T) {
	c := three(t)
	luck(c, lost, 50, late, 50, unanswered, 50)
	was := known(cluster.Link(c))
	check(t, "Well", c.Well(), api.OK)
	mustHaveNoLuck(t, c)
	checkLate(t, c, 0)
	if got := known(cluster.Link(c)); got != was {
		t.Errorf("there is\n%snot\n%s", got, was)
	}
	checkProduce(t, mustBroker(t, c, 1), 0, nobodys("a"), 0, api.OK)
	checkLate(t, c, 0)
	// New luck counts for messages to nodes and to acceptors, as ever.
	c.Luck([]int{late})
	checkProduce(t, mustBroker(t, c, 1), 0, nobodys("b"), 1, api.OK)
	c.Luck([]int{late})
	checkEnds(t, mustBroker(t, c, 1), 0, 0, 2, 2, api.OK)
	checkLate(t, c, 2)
}

// TestAllThatIsLateComes, the first one first.
func TestAllThatIsLateComes(t *testing.T) {
	c := three(t)
	mustBeLate(t, c, 0, write(5, 0, "a"))
	mustBeLate(t, c, 0, seal(5))
	mustBeLate(t, c, 1, seal(5))
	mustBeLate(t, c, 1, write(5, 0, "a"))
	mustAskLate(t, c, 2, prepare(0, 7))
	c.Double(1)
	luck(c, lost, 3)
	check(t, "Well", c.Well(), api.OK)
	checkLate(t, c, 0)
	checkStore(t, c, 0, 5, 1, true)
	checkStore(t, c, 1, 5, 0, true)
	checkStore(t, c, 2, 5, 0, false)
	checkPromised(t, c, 2, 0, 7)
	checkPromised(t, c, 1, 0, 0)
}

// TestWhatIsLateComesAheadOfStarting: those that are not up then do not get it.
func TestWhatIsLateComesAheadOfStarting(t *testing.T) {
	c := three(t)
	for i := range 3 {
		mustBeLate(t, c, i, write(5, 0, "a"))
		mustAskLate(t, c, i, prepare(0, 7))
	}
	c.Stop(cluster.Node, 0)
	c.Stop(cluster.Acceptor, 1)
	check(t, "Well", c.Well(), api.OK)
	checkAllUp(t, c)
	for i := range 3 {
		checkStore(t, c, i, 5, []int{0, 1, 1}[i], false)
		checkPromised(t, c, i, 0, []int{7, 0, 7}[i])
	}
}

// TestWhatIsLateBurnsFuses: what is broken off then is forgotten.
func TestWhatIsLateBurnsFuses(t *testing.T) {
	c := three(t)
	for i := range 3 {
		mustBeLate(t, c, i, write(5, 0, "a"))
		mustAskLate(t, c, i, prepare(0, 7))
		c.Cut(cluster.Node, i, i)
		c.Cut(cluster.Acceptor, i, i)
	}
	check(t, "Well", c.Well(), api.OK)
	checkAllUp(t, c)
	for i := range 3 {
		checkStore(t, c, i, 5, []int{0, 0, 1}[i], false)
		checkPromised(t, c, i, 0, []int{0, 0, 7}[i])
	}
}

// TestWithoutChoices: of what was broken off ahead of it nothing is kept.
func TestWithoutChoices(t *testing.T) {
	c := lone(t)
	b := mustBroker(t, c, 0)
	checkProduce(t, b, 0, nobodys("a"), 0, api.OK)
	c.Cut(cluster.Node, 0, 1)
	checkProduce(t, b, 0, nobodys("b"), 0, api.ErrLost)
	check(t, "Well", c.Well(), api.OK)
	checkFetch(t, mustBroker(t, c, 0), 0, "0:a")
}

// TestNoFuseIsLeft: of those that were up, and of those that were not.
func TestNoFuseIsLeft(t *testing.T) {
	for n := range 4 {
		c := three(t)
		for i := range 3 {
			for kind := range 2 {
				if i == 1 {
					c.Stop(kind, i)
				}
				c.Cut(kind, i, n)
				if i == 2 {
					c.Stop(kind, i)
				}
			}
		}
		check(t, "Well", c.Well(), api.OK)
		checkAllUp(t, c)
		for part := range 2 {
			for i := range 4 {
				b := mustBroker(t, c, i%2)
				if _, e := b.Produce(part, nobodys("a")); e != api.OK && i < 2 {
					t.Errorf("Produce: %d", e)
				}
			}
		}
		checkAllUp(t, c)
		for i := range 3 {
			if free := storeOf(c, i).Store().Free(); free == 400 {
				t.Errorf("the node %d has written nothing", i)
			}
		}
	}
}

// TestEachBrokerIsANewOne: also one that was up.
func TestEachBrokerIsANewOne(t *testing.T) {
	c := mustCluster(t, cluster.Spec{Nodes: 3, Acceptors: 3, Brokers: 4, Parts: 4, Session: 10, Blocks: 100})
	var old [4]any
	for i := range 4 {
		b := mustBroker(t, c, i)
		checkProduce(t, b, i, nobodys("a"), 0, api.OK)
		old[i] = b
	}
	c.Stop(cluster.Server, 1)
	c.Stop(cluster.Server, 3)
	check(t, "Well", c.Well(), api.OK)
	for i := range 4 {
		b := mustBroker(t, c, i)
		if any(b) == old[i] || b.Holds(i) {
			t.Errorf("the broker %d is the one that was there", i)
		}
		// A new one opens the log; one that held it would not.
		checkProduce(t, b, i, nobodys("b"), 1, api.OK)
		if list := storeOf(c, 0).Store().Loglets(); !slices.Contains(list, (i<<20+2)*16+i) {
			t.Errorf("the loglets are %v", list)
		}
	}
}

// TestWellOfAWellOne changes nothing but the brokers.
func TestWellOfAWellOne(t *testing.T) {
	c := three(t)
	checkProduce(t, mustBroker(t, c, 0), 0, nobodys("a"), 0, api.OK)
	c.Tick(9)
	was := world(cluster.Link(c))
	for range 3 {
		check(t, "Well", c.Well(), api.OK)
		checkWorld(t, c, was)
		checkNow(t, c, 9)
		checkAllUp(t, c)
	}
}

// TestAllAtOnce: luck, late messages, fuses, and all of them down.
func TestAllAtOnce(t *testing.T) {
	c := three(t)
	b := mustBroker(t, c, 0)
	checkProduce(t, b, 0, nobodys("a"), 0, api.OK)
	for kind, n := range []int{3, 3, 2} {
		for i := range n {
			luck(c, late, 2, comes, 1)
			b.Produce(0, nobodys("b"))
			mustBroker(t, c, 1).Ends(1)
			c.Cut(kind, i, 1)
		}
	}
	if c.Late() < 5 {
		t.Fatalf("%d messages are late", c.Late())
	}
	for kind, n := range []int{3, 3, 2} {
		for i := range n {
			c.Stop(kind, i)
		}
	}
	luck(c, lost, 100)
	check(t, "Well", c.Well(), api.OK)
	checkAllUp(t, c)
	checkLate(t, c, 0)
	mustHaveNoLuck(t, c)
	for i := range 2 {
		rows, _, e := mustBroker(t, c, i).Fetch(0, 0, 1, false)
		if e != api.OK || len(rows) != 1 || rows[0].Record.Value != "a" {
			t.Errorf("Fetch: %v, %d", rows, e)
		}
	}
}

// TestOneThatCantBeStarted: no call of a cluster brings it about, as a Crash gives the power back. The others are started all the same.
func TestOneThatCantBeStarted(t *testing.T) {
	for i := range 3 {
		for kind := range 2 {
			c := three(t)
			mustBeLate(t, c, (i+1)%3, write(5, 0, "a"))
			luck(c, lost, 9)
			if kind == cluster.Node {
				cluster.Link(c).Loglets.Nodes[i] = new(node.Node)
			} else {
				cluster.Link(c).Register.Acceptors[i] = new(acceptor.Acceptor)
			}
			for k, n := range []int{3, 3, 2} {
				for j := range n {
					c.Stop(k, j)
				}
			}
			b, _ := c.Broker(0)
			check(t, "Well", c.Well(), api.ErrArg)
			for k, n := range []int{3, 3, 2} {
				for j := range n {
					checkIs(t, "Up", c.Up(k, j), k != kind || j != i)
				}
			}
			checkLate(t, c, 0)
			mustHaveNoLuck(t, c)
			if mustBroker(t, c, 0) == b {
				t.Errorf("the broker is not a new one")
			}
			checkProduce(t, mustBroker(t, c, 0), 0, nobodys("a"), 0, api.OK)
		}
	}
}
