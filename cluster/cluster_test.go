package cluster_test

import (
	"fmt"
	"math"
	"slices"
	"testing"

	"gazette/api"
	"gazette/cluster"
	"gazette/group"
)

// P1801

func TestOneThatNewDidNotMake(t *testing.T) {
	for _, c := range []*cluster.Cluster{nil, {}, new(cluster.Cluster)} {
		for i := -1; i < 3; i++ {
			checkBroker(t, c, i, api.ErrArg)
			for kind := -1; kind < 4; kind++ {
				check(t, "Stop", c.Stop(kind, i), api.ErrArg)
				check(t, "Start", c.Start(kind, i, []int{1}), api.ErrArg)
				check(t, "Cut", c.Cut(kind, i, 1), api.ErrArg)
				checkIs(t, "Up", c.Up(kind, i), false)
			}
			checkIs(t, "Deliver", c.Deliver(i), false)
			checkIs(t, "Drop", c.Drop(i), false)
			checkIs(t, "Double", c.Double(i), false)
			check(t, "Tick", c.Tick(i), api.ErrArg)
		}
		check(t, "Luck", c.Luck([]int{3}), api.ErrArg)
		check(t, "Luck of nothing", c.Luck(nil), api.ErrArg)
		checkLate(t, c, 0)
		checkNow(t, c, 0)
		check(t, "Well", c.Well(), api.ErrArg)
		checkSettle(t, c, 0, api.ErrArg)
	}
}

// TestAnyArguments: whatever is asked, there is an answer.
func TestAnyArguments(t *testing.T) {
	c := three(t)
	for _, n := range extremes {
		for _, m := range extremes {
			c.Luck([]int{n, m})
			c.Stop(n, m)
			c.Start(n, m, []int{n, m})
			c.Cut(n, m, n)
			c.Cut(cluster.Node, 0, m)
			c.Up(n, m)
			if b, e := c.Broker(m); e == api.OK {
				b.Produce(0, nobodys("a"))
			}
			c.Deliver(n)
			c.Drop(n)
			c.Double(m)
			c.Tick(n)
			c.Settle()
		}
	}
	check(t, "Well", c.Well(), api.OK)
	checkSettle(t, c, 0, api.OK)
}

// TestNothingAndAnEmptyList mean the same.
func TestNothingAndAnEmptyList(t *testing.T) {
	for _, l := range [][]int{nil, {}} {
		c := lone(t)
		was := world(cluster.Link(c))
		check(t, "Luck", c.Luck(l), api.OK)
		check(t, "Start", c.Start(cluster.Node, 0, l), api.OK)
		c.Stop(cluster.Node, 0)
		check(t, "Start", c.Start(cluster.Node, 0, l), api.OK)
		checkWorld(t, c, was)
	}
}

// TestWhatIsHandedInIsNotKept: all of it is changed behind each call.
func TestWhatIsHandedInIsNotKept(t *testing.T) {
	c := lone(t)
	b := mustBroker(t, c, 0)
	checkProduce(t, b, 0, nobodys("a"), 0, api.OK)
	room := []int{lost, lost, 7, 7}
	l := room[:1]
	check(t, "Luck", c.Luck(l), api.OK)
	if !slices.Equal(room, []int{lost, lost, 7, 7}) {
		t.Errorf("Luck has changed what was handed in: %v", room)
	}
	spoil(l, comes)
	checkProduce(t, b, 0, nobodys("b"), 0, api.ErrLost)
	checkProduce(t, b, 0, nobodys("c"), 1, api.OK)

	c.Cut(cluster.Node, 0, 1)
	checkProduce(t, b, 0, nobodys("d"), 0, api.ErrLost)
	room = []int{1, 7, 7}
	l = room[:1]
	check(t, "Start", c.Start(cluster.Node, 0, l), api.OK)
	if !slices.Equal(room, []int{1, 7, 7}) {
		t.Errorf("Start has changed what was handed in: %v", room)
	}
	spoil(l, 7)
	checkFetch(t, b, 0, "0:a", "1:c", "2:d")
}

// TestClustersShareNothing: not even a spec.
func TestClustersShareNothing(t *testing.T) {
	s := cluster.Spec{Nodes: 3, Acceptors: 3, Brokers: 2, Parts: 2, Session: 10, Blocks: 100}
	c, d := mustCluster(t, s), mustCluster(t, s)
	was := world(cluster.Link(d))
	s.Parts, s.Session, s.Brokers = 1, 1, 1
	checkProduce(t, mustBroker(t, c, 1), 1, nobodys("a"), 0, api.OK)
	c.Stop(cluster.Server, 0)
	c.Start(cluster.Server, 0, nil)
	checkProduce(t, mustBroker(t, c, 0), 1, nobodys("b"), 1, api.OK)
	c.Stop(cluster.Node, 0)
	c.Stop(cluster.Acceptor, 0)
	c.Stop(cluster.Server, 0)
	c.Tick(5)
	c.Luck([]int{late, late})
	mustBroker(t, c, 1).Produce(0, nobodys("c"))
	checkWorld(t, d, was)
	checkNow(t, d, 0)
	checkLate(t, d, 0)
	checkProduce(t, mustBroker(t, d, 0), 1, nobodys("d"), 0, api.OK)
}

// TestTheSameCallsTheSameAnswers: maps inside do not show.
func TestTheSameCallsTheSameAnswers(t *testing.T) {
	play := func() string {
		c := three(t)
		b := mustBroker(t, c, 0)
		for i := range 6 {
			b.Produce(i%2, nobodys(fmt.Sprint(i)))
			b.Group(i, join("m", 0))
			c.Luck([]int{late, comes, late, lost})
			c.Cut(cluster.Node, i%3, i)
		}
		n, e := c.Settle()
		return fmt.Sprint(n, e, world(cluster.Link(c)))
	}
	was := play()
	for range 5 {
		if got := play(); got != was {
			t.Fatalf("there is\n%snot\n%s", got, was)
		}
	}
}

// P1802

// limits are the greatest numbers of a spec's fields, in their order.
var limits = [6]int{api.MaxNodes, api.MaxNodes, 16, api.MaxParts, 3600, api.MaxBlocks}

func specOf(n [6]int) cluster.Spec {
	return cluster.Spec{Nodes: n[0], Acceptors: n[1], Brokers: n[2], Parts: n[3], Session: n[4], Blocks: n[5]}
}

func TestASpecThatMayBe(t *testing.T) {
	least := [6]int{1, 1, 1, 1, 1, 1}
	greatest := limits
	for _, base := range [][6]int{least, greatest, {3, 3, 2, 2, 10, 8}} {
		mustCluster(t, specOf(base))
		for i, most := range limits {
			for _, n := range []int{1, 2, most - 1, most} {
				x := base
				x[i] = n
				mustCluster(t, specOf(x))
			}
		}
	}
}

func TestASpecThatMayNotBe(t *testing.T) {
	refuse := func(x [6]int) {
		t.Helper()
		if c, e := cluster.New(specOf(x)); c != nil || e != api.ErrArg {
			t.Errorf("New of %v: %v, %d", x, c, e)
		}
	}
	refuse([6]int{})
	for i, most := range limits {
		for _, n := range []int{math.MinInt, -1, 0, most + 1, math.MaxInt} {
			for _, base := range [][6]int{{1, 1, 1, 1, 1, 1}, limits} {
				x := base
				x[i] = n
				refuse(x)
			}
		}
	}
}

// TestSoMany: as many as the spec says, all up, and none behind them.
func TestSoMany(t *testing.T) {
	for _, n := range [][6]int{{1, 1, 1, 1, 1, 1}, {2, 5, 3, 1, 1, 9}, {9, 9, 16, 32, 3600, 20}, {4, 1, 16, 1, 1, 4}} {
		c := mustCluster(t, specOf(n))
		for kind := range 3 {
			for i := -1; i < 20; i++ {
				if up := c.Up(kind, i); up != (i >= 0 && i < n[kind]) {
					t.Errorf("New of %v: Up(%d, %d): %v", n, kind, i, up)
				}
			}
		}
		checkLate(t, c, 0)
		checkNow(t, c, 0)
		mustHaveNoLuck(t, c)
	}
}

// TestIdsAndParts: the number of a loglet tells the id of who opened it.
func TestIdsAndParts(t *testing.T) {
	c := mustCluster(t, cluster.Spec{Nodes: 1, Acceptors: 1, Brokers: 16, Parts: 16, Session: 1, Blocks: 500})
	for id := range 16 {
		b := mustBroker(t, c, id)
		checkProduce(t, b, id, nobodys("a"), 0, api.OK)
		checkProduce(t, b, 16, nobodys("a"), 0, api.ErrArg)
		list := storeOf(c, 0).Store().Loglets()
		if want := (id<<20+1)*16 + id; list[len(list)-1] != want {
			t.Errorf("the broker %d has made the loglet %d, not %d", id, list[len(list)-1], want)
		}
	}
}

func TestSession(t *testing.T) {
	for _, session := range []int{1, 10, 3600} {
		c := mustCluster(t, cluster.Spec{Nodes: 1, Acceptors: 1, Brokers: 2, Parts: 3, Session: session, Blocks: 50})
		b := mustBroker(t, c, 0)
		for _, x := range []struct {
			event group.Event
			gen   int
			share []int
		}{{join("m", 5), 1, []int{0, 1, 2}}, {silent(5 + session - 1), 1, nil}, {silent(5 + session), 2, nil}} {
			gen, share, e := b.Group(0, x.event)
			if gen != x.gen || !slices.Equal(share, x.share) || e != api.OK {
				t.Errorf("Group(0, %+v) with sessions of %d: %d, %v, %d", x.event, session, gen, share, e)
			}
		}
	}
}

// TestBlocks: each node and acceptor has so many of its own.
func TestBlocks(t *testing.T) {
	for _, blocks := range []int{1, 7, 50, api.MaxBlocks} {
		c := mustCluster(t, cluster.Spec{Nodes: 3, Acceptors: 3, Brokers: 1, Parts: 1, Session: 1, Blocks: blocks})
		for i := range 3 {
			if free := storeOf(c, i).Store().Free(); free != blocks {
				t.Errorf("the node %d has %d blocks, not %d", i, free, blocks)
			}
			fillAcceptor(t, c, i, blocks)
		}
	}
}

// fillAcceptor asks an acceptor for promises, of a block each, till it is full.
func fillAcceptor(t *testing.T, c *cluster.Cluster, i, blocks int) {
	t.Helper()
	for n := range blocks + 1 {
		x, ok := cluster.Link(c).Register.Ask(i, prepare(n, 9))
		want := api.OK
		if n == blocks {
			want = api.ErrFull
		}
		if !ok || x.E != want {
			t.Fatalf("the acceptor %d, with %d promises, of %d blocks: %v, %d", i, n, blocks, ok, x.E)
		}
	}
}

// TestWhichNumberAMessageHas: to nodes their own, to acceptors 100 and theirs.
func TestWhichNumberAMessageHas(t *testing.T) {
	c := three(t)
	for i := range 3 {
		mustBeLate(t, c, i, seal(1))
		mustAskLate(t, c, i, prepare(0, 1))
	}
	for k, want := range []int{0, 100, 1, 101, 2, 102} {
		if to, _, _ := netOf(c).Message(k); to != want {
			t.Errorf("the late message %d is to %d, not to %d", k, to, want)
		}
	}
	if cluster.Link(c).Loglets.Net != cluster.Link(c).Register.Net {
		t.Errorf("there are two nets")
	}
}

// P1803

func TestBroker(t *testing.T) {
	c := mustCluster(t, cluster.Spec{Nodes: 1, Acceptors: 1, Brokers: 3, Parts: 1, Session: 1, Blocks: 50})
	for _, i := range []int{math.MinInt, -1, 3, 4, 16, 100, math.MaxInt} {
		checkBroker(t, c, i, api.ErrNone)
	}
	for i := range 3 {
		b := mustBroker(t, c, i)
		if mustBroker(t, c, i) != b {
			t.Errorf("the broker %d is another one the second time", i)
		}
		if mustBroker(t, c, (i+1)%3) == b {
			t.Errorf("the broker %d is the one behind it, too", i)
		}
	}
	for i := range 3 {
		c.Stop(cluster.Server, i)
		for j := range 3 {
			want := api.OK
			if j <= i {
				want = api.ErrPower
			}
			checkBroker(t, c, j, want)
		}
	}
	checkBroker(t, c, -1, api.ErrNone)
	checkBroker(t, c, 3, api.ErrNone)
	c.Start(cluster.Server, 1, nil)
	checkBroker(t, c, 0, api.ErrPower)
	checkBroker(t, c, 1, api.OK)
	checkBroker(t, c, 2, api.ErrPower)
}

// TestTheBrokerIsTheClustersOwn: what it is asked, befalls the cluster.
func TestTheBrokerIsTheClustersOwn(t *testing.T) {
	c := three(t)
	checkProduce(t, mustBroker(t, c, 0), 0, nobodys("a"), 0, api.OK)
	checkIs(t, "Holds by 0", mustBroker(t, c, 0).Holds(0), true)
	checkIs(t, "Holds by 1", mustBroker(t, c, 1).Holds(0), false)
	checkFetch(t, mustBroker(t, c, 1), 0, "0:a")
	checkProduce(t, mustBroker(t, c, 0), 0, nobodys("b"), 0, api.ErrSeal)
	c.Luck([]int{late})
	checkProduce(t, mustBroker(t, c, 1), 0, nobodys("b"), 1, api.OK)
	checkLate(t, c, 1)
}

// The chapter's examples

func TestExamples(t *testing.T) {
	c := three(t)
	c.Stop(cluster.Node, 0)
	checkProduce(t, mustBroker(t, c, 0), 0, nobodys("a"), 0, api.OK)
	c.Stop(cluster.Node, 1)
	checkProduce(t, mustBroker(t, c, 0), 0, nobodys("b"), 0, api.ErrLost)
}
