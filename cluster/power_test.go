package cluster_test

import (
	"fmt"
	"math"
	"testing"

	"gazette/api"
	"gazette/cluster"
)

// P1805

// strange are kinds and numbers, of which one is none, where there are two, three and four.
var strange = []struct {
	kind, i int
	want    api.Errno
}{
	{math.MinInt, 0, api.ErrArg}, {-1, 0, api.ErrArg}, {3, 0, api.ErrArg}, {4, 0, api.ErrArg}, {math.MaxInt, 0, api.ErrArg},
	{-1, -1, api.ErrArg}, {3, 99, api.ErrArg},
	{0, math.MinInt, api.ErrNone}, {0, -1, api.ErrNone}, {0, 2, api.ErrNone}, {0, 3, api.ErrNone}, {0, math.MaxInt, api.ErrNone},
	{1, math.MinInt, api.ErrNone}, {1, -1, api.ErrNone}, {1, 3, api.ErrNone}, {1, 4, api.ErrNone}, {1, 100, api.ErrNone},
	{2, math.MinInt, api.ErrNone}, {2, -1, api.ErrNone}, {2, 4, api.ErrNone}, {2, 5, api.ErrNone}, {2, math.MaxInt, api.ErrNone},
}

func twoThreeFour(t *testing.T) *cluster.Cluster {
	t.Helper()
	return mustCluster(t, cluster.Spec{Nodes: 2, Acceptors: 3, Brokers: 4, Parts: 2, Session: 10, Blocks: 60})
}

func TestKinds(t *testing.T) {
	if cluster.Node != 0 || cluster.Acceptor != 1 || cluster.Server != 2 {
		t.Errorf("the kinds are %d, %d, %d", cluster.Node, cluster.Acceptor, cluster.Server)
	}
}

func TestWhatThereIsNot(t *testing.T) {
	for _, down := range []bool{false, true} {
		c := twoThreeFour(t)
		for kind, n := range []int{2, 3, 4} {
			for i := 0; i < n && down; i++ {
				check(t, "Stop", c.Stop(kind, i), api.OK)
			}
		}
		for _, x := range strange {
			what := fmt.Sprintf("(%d, %d)", x.kind, x.i)
			check(t, "Stop"+what, c.Stop(x.kind, x.i), x.want)
			check(t, "Start"+what, c.Start(x.kind, x.i, nil), x.want)
			check(t, "Start"+what, c.Start(x.kind, x.i, []int{1}), x.want)
			check(t, "Cut"+what, c.Cut(x.kind, x.i, 0), x.want)
			check(t, "Cut"+what, c.Cut(x.kind, x.i, -1), x.want)
			checkIs(t, "Up"+what, c.Up(x.kind, x.i), false)
		}
		for kind, n := range []int{2, 3, 4} {
			for i := range n {
				checkIs(t, "Up", c.Up(kind, i), !down)
			}
		}
		if !down {
			checkProduce(t, mustBroker(t, c, 0), 0, nobodys("a"), 0, api.OK) // no fuse was laid
			checkIs(t, "Up", c.Up(cluster.Node, 0) && c.Up(cluster.Node, 1), true)
		}
	}
}

// TestStopAndStart: each alone, whichever it is.
func TestStopAndStart(t *testing.T) {
	for kind, n := range []int{2, 3, 4} {
		for i := range n {
			c := twoThreeFour(t)
			for range 2 {
				check(t, "Stop", c.Stop(kind, i), api.OK)
				checkOthersUp(t, c, kind, i)
			}
			for range 2 {
				check(t, "Start", c.Start(kind, i, nil), api.OK)
				checkOthersUp(t, c, -1, -1)
			}
		}
	}
}

// checkOthersUp looks that all are up, but one.
func checkOthersUp(t *testing.T, c *cluster.Cluster, kind, i int) {
	t.Helper()
	for k, n := range []int{2, 3, 4} {
		for j := range n {
			if up := c.Up(k, j); up == (k == kind && j == i) {
				t.Errorf("behind a Stop of (%d, %d): Up(%d, %d): %v", kind, i, k, j, up)
			}
		}
	}
}

// TestWhoIsStopped does not answer, and knows what it knew when it is started.
func TestWhoIsStopped(t *testing.T) {
	c := three(t)
	b := mustBroker(t, c, 0)
	checkProduce(t, b, 0, nobodys("a"), 0, api.OK)
	was := known(cluster.Link(c))
	c.Stop(cluster.Node, 0)
	c.Stop(cluster.Acceptor, 0)
	checkProduce(t, b, 0, nobodys("b"), 1, api.OK)
	checkFetch(t, b, 0, "0:a", "1:b")
	c.Stop(cluster.Acceptor, 1)
	checkProduce(t, b, 0, nobodys("c"), 2, api.OK) // no acceptor is asked
	if _, _, _, e := b.Ends(0); e != api.ErrLost {
		t.Errorf("Ends, with one acceptor of three: %d", e)
	}
	c.Start(cluster.Acceptor, 0, nil)
	checkEnds(t, b, 0, 0, 3, 3, api.OK)
	c.Stop(cluster.Node, 1)
	checkProduce(t, b, 0, nobodys("d"), 0, api.ErrLost)
	checkProduce(t, b, 0, nobodys("d"), 0, api.ErrLost)
	c.Start(cluster.Node, 0, nil)
	if _, e := b.Produce(0, nobodys("e")); e != api.OK {
		t.Errorf("Produce, with two nodes of three: %d", e)
	}
	d := three(t)
	checkProduce(t, mustBroker(t, d, 0), 0, nobodys("a"), 0, api.OK)
	for i := range 3 {
		d.Stop(cluster.Node, i)
		d.Stop(cluster.Acceptor, i)
		d.Start(cluster.Node, i, nil)
		d.Start(cluster.Acceptor, i, nil)
	}
	if got := known(cluster.Link(d)); got != was {
		t.Errorf("all were stopped and started: there is\n%snot\n%s", got, was)
	}
}

// TestChoicesOfANode: what its disk has kept of a block that was written, and not synced.
func TestChoicesOfANode(t *testing.T) {
	for _, x := range []struct {
		choices []int
		want    []string
	}{
		{nil, []string{"0:a", "1:c"}}, {[]int{}, []string{"0:a", "1:c"}}, {[]int{0}, []string{"0:a", "1:c"}}, {[]int{0, 1}, []string{"0:a", "1:c"}},
		{[]int{1}, []string{"0:a", "1:b", "2:c"}}, {[]int{1, 7}, []string{"0:a", "1:b", "2:c"}},
		{[]int{2}, []string{"0:a", "1:c"}}, {[]int{-1}, []string{"0:a", "1:c"}},
	} {
		c := lone(t)
		b := mustBroker(t, c, 0)
		checkProduce(t, b, 0, nobodys("a"), 0, api.OK)
		check(t, "Cut", c.Cut(cluster.Node, 0, 1), api.OK)
		checkIs(t, "Up", c.Up(cluster.Node, 0), true)
		checkProduce(t, b, 0, nobodys("b"), 0, api.ErrLost)
		checkIs(t, "Up behind the fuse", c.Up(cluster.Node, 0), false)
		check(t, "Start", c.Start(cluster.Node, 0, x.choices), api.OK)
		checkIs(t, "Up behind Start", c.Up(cluster.Node, 0), true)
		checkProduce(t, b, 0, nobodys("c"), len(x.want)-1, api.OK)
		checkFetch(t, b, 0, x.want...)
	}
}

// TestChoicesOfAnAcceptor: whether it keeps a promise that it did not give any more.
func TestChoicesOfAnAcceptor(t *testing.T) {
	for _, x := range []struct {
		choices []int
		want    int
	}{{nil, 0}, {[]int{0}, 0}, {[]int{1}, 7}, {[]int{1, 7}, 7}, {[]int{2}, 0}, {[]int{-1}, 0}} {
		c := three(t)
		check(t, "Cut", c.Cut(cluster.Acceptor, 1, 1), api.OK)
		if _, ok := cluster.Link(c).Register.Ask(1, prepare(0, 7)); ok || c.Up(cluster.Acceptor, 1) {
			t.Errorf("the acceptor has answered, or is up")
		}
		check(t, "Start", c.Start(cluster.Acceptor, 1, x.choices), api.OK)
		checkIs(t, "Up behind Start", c.Up(cluster.Acceptor, 1), true)
		checkPromised(t, c, 1, 0, x.want)
	}
}

// TestStartOfOneThatIsUp: nothing happens; its fuse burns on.
func TestStartOfOneThatIsUp(t *testing.T) {
	for _, choices := range [][]int{nil, {}, {0}, {1}, {7, 7, 7}} {
		c := three(t)
		b := mustBroker(t, c, 0)
		checkProduce(t, b, 0, nobodys("a"), 0, api.OK)
		was := world(cluster.Link(c))
		c.Cut(cluster.Node, 2, 0)
		c.Cut(cluster.Acceptor, 2, 0)
		for kind, n := range []int{3, 3, 2} {
			for i := range n {
				check(t, "Start", c.Start(kind, i, choices), api.OK)
			}
		}
		checkWorld(t, c, was)
		if mustBroker(t, c, 0) != b || !b.Holds(0) {
			t.Errorf("the broker is a new one")
		}
		check(t, "Start", c.Start(cluster.Node, 2, choices), api.OK)
		check(t, "Start", c.Start(cluster.Acceptor, 2, choices), api.OK)
		checkProduce(t, mustBroker(t, c, 1), 0, nobodys("b"), 1, api.OK)
		checkIs(t, "Up(Node, 2)", c.Up(cluster.Node, 2), false)
		checkIs(t, "Up(Acceptor, 2)", c.Up(cluster.Acceptor, 2), false)
	}
}

// TestABrokerThatIsStopped: what it knew is gone.
func TestABrokerThatIsStopped(t *testing.T) {
	for _, choices := range [][]int{nil, {1, 2, 3}} {
		c := three(t)
		b := mustBroker(t, c, 1)
		checkProduce(t, b, 0, nobodys("a"), 0, api.OK)
		was := world(cluster.Link(c))
		check(t, "Stop", c.Stop(cluster.Server, 1), api.OK)
		checkBroker(t, c, 1, api.ErrPower)
		checkIs(t, "Up", c.Up(cluster.Server, 1), false)
		checkIs(t, "Up of the other one", c.Up(cluster.Server, 0), true)
		check(t, "Start", c.Start(cluster.Server, 1, choices), api.OK)
		checkIs(t, "Up", c.Up(cluster.Server, 1), true)
		again := mustBroker(t, c, 1)
		if again == b || again.Holds(0) {
			t.Errorf("the broker is the one that was stopped")
		}
		checkWorld(t, c, was)
		checkProduce(t, again, 0, nobodys("b"), 1, api.OK)
		checkFetch(t, again, 0, "0:a", "1:b")
		checkFetch(t, mustBroker(t, c, 0), 0, "0:a", "1:b")
		if list := storeOf(c, 0).Store().Loglets(); list[0]%16 != 1 || list[1]%16 != 1 {
			t.Errorf("the new broker has not the old one's id: %v", list)
		}
	}
}

// TestCut: so many operations are done still.
func TestCut(t *testing.T) {
	for _, x := range []struct{ n, done int }{{0, 0}, {1, 0}, {2, 1}, {3, 1}, {4, 2}, {7, 3}} {
		c := lone(t)
		b := mustBroker(t, c, 0)
		checkProduce(t, b, 0, nobodys("a"), 0, api.OK)
		check(t, "Cut", c.Cut(cluster.Node, 0, x.n), api.OK)
		for i := range x.done { // each writes a block, and syncs
			checkProduce(t, b, 0, nobodys("b"), 1+i, api.OK)
			checkIs(t, "Up", c.Up(cluster.Node, 0), true)
		}
		checkProduce(t, b, 0, nobodys("c"), 0, api.ErrLost)
		checkIs(t, "Up", c.Up(cluster.Node, 0), false)
		checkIs(t, "Up of the acceptor", c.Up(cluster.Acceptor, 0), true)
	}
}

func TestCutOfAnAcceptor(t *testing.T) {
	c := three(t)
	check(t, "Cut", c.Cut(cluster.Acceptor, 1, 2), api.OK)
	if x, ok := cluster.Link(c).Register.Ask(1, prepare(0, 7)); !ok || x.E != api.OK {
		t.Errorf("Prepare: %v, %v", x, ok)
	}
	checkIs(t, "Up", c.Up(cluster.Acceptor, 1), true)
	if x, ok := cluster.Link(c).Register.Ask(1, prepare(0, 8)); ok {
		t.Errorf("Prepare behind the fuse: %v", x)
	}
	for i := range 3 {
		checkIs(t, "Up of an acceptor", c.Up(cluster.Acceptor, i), i != 1)
		checkIs(t, "Up of a node", c.Up(cluster.Node, i), true)
	}
}

// TestAFuseThatIsTakenAway: below 0 there is none, and a later one is in an earlier one's place.
func TestAFuseThatIsTakenAway(t *testing.T) {
	for _, n := range []int{-1, math.MinInt, 1000} {
		c := lone(t)
		b := mustBroker(t, c, 0)
		for kind := range 2 {
			c.Cut(kind, 0, 0)
			check(t, "Cut", c.Cut(kind, 0, n), api.OK)
		}
		checkProduce(t, b, 0, nobodys("a"), 0, api.OK)
		checkEnds(t, b, 0, 0, 1, 1, api.OK)
	}
}

// TestAFuseOfOneThatIsStopped: whoever is started has none.
func TestAFuseOfOneThatIsStopped(t *testing.T) {
	c := lone(t)
	for kind := range 2 {
		c.Stop(kind, 0)
		check(t, "Cut", c.Cut(kind, 0, 0), api.OK)
		check(t, "Start", c.Start(kind, 0, nil), api.OK)
	}
	checkProduce(t, mustBroker(t, c, 0), 0, nobodys("a"), 0, api.OK)
}

func TestCutOfABroker(t *testing.T) {
	c := twoThreeFour(t)
	for _, n := range []int{math.MinInt, -1, 0, 1, math.MaxInt} {
		check(t, "Cut of a broker", c.Cut(cluster.Server, 0, n), api.ErrArg)
		check(t, "Cut of the last broker", c.Cut(cluster.Server, 3, n), api.ErrArg)
		check(t, "Cut of no broker", c.Cut(cluster.Server, 4, n), api.ErrNone)
	}
	c.Stop(cluster.Server, 0)
	check(t, "Cut of a broker that is not up", c.Cut(cluster.Server, 0, 1), api.ErrArg)
	checkIs(t, "Up", c.Up(cluster.Server, 0), false)
	checkIs(t, "Up of the last one", c.Up(cluster.Server, 3), true)
	checkProduce(t, mustBroker(t, c, 3), 0, nobodys("a"), 0, api.OK)
}
