package cluster_test

import (
	"math"
	"slices"
	"testing"

	"gazette/api"
	"gazette/cluster"
)

// lateOnes tells whom the late messages are to.
func lateOnes(c *cluster.Cluster) []int {
	var list []int
	for k := range c.Late() {
		to, _, _ := netOf(c).Message(k)
		list = append(list, to)
	}
	return list
}

func checkLateOnes(t *testing.T, c *cluster.Cluster, want ...int) {
	t.Helper()
	if got := lateOnes(c); !slices.Equal(got, want) {
		t.Errorf("late are messages to %v, not to %v", got, want)
	}
}

// several is a cluster with late messages to a node, an acceptor, and another node.
func several(t *testing.T) *cluster.Cluster {
	t.Helper()
	c := three(t)
	mustBeLate(t, c, 1, write(5, 0, "a"))
	mustAskLate(t, c, 2, prepare(0, 7))
	mustBeLate(t, c, 0, seal(5))
	return c
}

// beside are numbers of late messages that are not there, where there are n.
func beside(n int) []int { return []int{math.MinInt, -n, -1, n, n + 1, math.MaxInt} }

// P1804

// TestLuck: what is laid waits behind what waits.
func TestLuck(t *testing.T) {
	c := lone(t)
	b := mustBroker(t, c, 0)
	checkProduce(t, b, 0, nobodys("a"), 0, api.OK)
	check(t, "Luck", c.Luck([]int{comes, unanswered}), api.OK)
	check(t, "Luck", c.Luck([]int{lost}), api.OK)
	if n := netOf(c).Left(); n != 3 {
		t.Errorf("%d numbers wait", n)
	}
	checkProduce(t, b, 0, nobodys("b"), 1, api.OK)
	checkProduce(t, b, 0, nobodys("c"), 0, api.ErrLost) // it is there nevertheless
	checkProduce(t, b, 0, nobodys("d"), 0, api.ErrLost) // nobody tells what the register has
	checkFetch(t, b, 0, "0:a", "1:b", "2:c")
}

// TestLuckOfAnyNumbers: the rest by 5 counts.
func TestLuckOfAnyNumbers(t *testing.T) {
	c := lone(t)
	b := mustBroker(t, c, 0)
	checkProduce(t, b, 0, nobodys("a"), 0, api.OK)
	check(t, "Luck", c.Luck([]int{5, -1, -7, math.MinInt}), api.OK)
	checkProduce(t, b, 0, nobodys("b"), 1, api.OK)
	checkProduce(t, b, 0, nobodys("c"), 2, api.OK) // it came twice
	checkLate(t, c, 0)
	checkProduce(t, b, 0, nobodys("d"), 0, api.ErrLost) // -7 is 3: it is late
	checkLate(t, c, 1)
}

func TestLate(t *testing.T) {
	c := three(t)
	checkLate(t, c, 0)
	b := mustBroker(t, c, 0)
	checkProduce(t, b, 0, nobodys("a"), 0, api.OK)
	for i := range 5 {
		luck(c, late, 1)
		checkProduce(t, b, 0, nobodys("a"), i+1, api.OK)
		checkLate(t, c, i+1)
	}
}

func TestDeliver(t *testing.T) {
	c := several(t)
	checkLateOnes(t, c, 1, 102, 0)
	checkStore(t, c, 1, 5, 0, false)
	checkIs(t, "Deliver(0)", c.Deliver(0), true)
	checkStore(t, c, 1, 5, 1, false)
	checkLateOnes(t, c, 102, 0)
	checkIs(t, "Deliver(1)", c.Deliver(1), true)
	checkStore(t, c, 0, 5, 0, true)
	checkStore(t, c, 1, 5, 1, false)
	checkLateOnes(t, c, 102)
	checkIs(t, "Deliver(0)", c.Deliver(0), true)
	checkLate(t, c, 0)
	for i := range 3 {
		checkPromised(t, c, i, 0, []int{0, 0, 7}[i])
	}
	checkIs(t, "Deliver(0)", c.Deliver(0), false)
}

// TestEachReceiver: every node and every acceptor gets what is to it, and nobody else does.
func TestEachReceiver(t *testing.T) {
	c := mustCluster(t, cluster.Spec{Nodes: 9, Acceptors: 9, Brokers: 1, Parts: 1, Session: 1, Blocks: 40})
	for i := range 9 {
		mustBeLate(t, c, i, write(1+i, 0, "a"))
		mustAskLate(t, c, i, prepare(i, 3))
	}
	for range 18 {
		checkIs(t, "Deliver(0)", c.Deliver(0), true)
	}
	for i := range 9 {
		if got := storeOf(c, i).Store().Loglets(); !slices.Equal(got, []int{1 + i}) {
			t.Errorf("the node %d has the loglets %v", i, got)
		}
		for key := range 9 {
			want := 0
			if key == i {
				want = 3
			}
			checkPromised(t, c, i, key, want)
		}
	}
}

// TestDeliverOfOneThatIsNotThere: nothing comes of it.
func TestDeliverOfOneThatIsNotThere(t *testing.T) {
	c := several(t)
	was := world(cluster.Link(c))
	for _, k := range beside(3) {
		checkIs(t, "Deliver", c.Deliver(k), false)
	}
	checkWorld(t, c, was)
}

// TestDeliverToSomebodyWhoIsNotUp: the message goes, and that is all.
func TestDeliverToSomebodyWhoIsNotUp(t *testing.T) {
	c := several(t)
	c.Stop(cluster.Node, 1)
	c.Stop(cluster.Acceptor, 2)
	checkIs(t, "Deliver(0)", c.Deliver(0), true)
	checkLateOnes(t, c, 102, 0)
	checkIs(t, "Deliver(0)", c.Deliver(0), true)
	checkLateOnes(t, c, 0)
	checkIs(t, "Up", c.Up(cluster.Node, 1) || c.Up(cluster.Acceptor, 2), false)
	c.Start(cluster.Node, 1, nil)
	c.Start(cluster.Acceptor, 2, nil)
	checkStore(t, c, 1, 5, 0, false)
	checkPromised(t, c, 2, 0, 0)
}

// TestDeliverToSomebodyWithAFuse: what comes late is done like anything else.
func TestDeliverToSomebodyWithAFuse(t *testing.T) {
	c := several(t)
	c.Cut(cluster.Node, 1, 0)
	c.Cut(cluster.Acceptor, 2, 0)
	checkIs(t, "Deliver(0)", c.Deliver(0), true)
	checkIs(t, "Deliver(0)", c.Deliver(0), true)
	checkIs(t, "Up(Node, 1)", c.Up(cluster.Node, 1), false)
	checkIs(t, "Up(Acceptor, 2)", c.Up(cluster.Acceptor, 2), false)
	checkLateOnes(t, c, 0)
}

// TestDeliverToNobody: messages that no broker sends have receivers that are not there.
func TestDeliverToNobody(t *testing.T) {
	to := []int{math.MinInt, -1, 3, 4, 99, 103, 104, 200, 201, math.MaxInt}
	for _, n := range to {
		c := three(t)
		was := world(cluster.Link(c))
		c.Luck([]int{late})
		netOf(c).Send(n, []byte("a"))
		checkLateOnes(t, c, n)
		checkIs(t, "Deliver(0)", c.Deliver(0), true)
		checkWorld(t, c, was)
	}
}

// TestDeliverTakesNoLuck: what comes late was told ahead already.
func TestDeliverTakesNoLuck(t *testing.T) {
	c := several(t)
	luck(c, lost, 4)
	checkIs(t, "Deliver(0)", c.Deliver(0), true)
	checkIs(t, "Deliver(0)", c.Deliver(0), true)
	if n := netOf(c).Left(); n != 4 {
		t.Errorf("%d numbers wait", n)
	}
	checkStore(t, c, 1, 5, 1, false)
	checkPromised(t, c, 2, 0, 7)
}

func TestDrop(t *testing.T) {
	c := several(t)
	was := known(cluster.Link(c))
	for _, k := range beside(3) {
		checkIs(t, "Drop", c.Drop(k), false)
	}
	checkLateOnes(t, c, 1, 102, 0)
	checkIs(t, "Drop(1)", c.Drop(1), true)
	checkLateOnes(t, c, 1, 0)
	checkIs(t, "Drop(1)", c.Drop(1), true)
	checkLateOnes(t, c, 1)
	checkIs(t, "Drop(1)", c.Drop(1), false)
	checkIs(t, "Drop(0)", c.Drop(0), true)
	checkIs(t, "Drop(0)", c.Drop(0), false)
	checkLate(t, c, 0)
	if got := known(cluster.Link(c)); got != was {
		t.Errorf("what was dropped came: there is\n%snot\n%s", got, was)
	}
}

func TestDouble(t *testing.T) {
	c := several(t)
	for _, k := range beside(3) {
		checkIs(t, "Double", c.Double(k), false)
	}
	checkLateOnes(t, c, 1, 102, 0)
	checkIs(t, "Double(0)", c.Double(0), true)
	checkIs(t, "Double(1)", c.Double(1), true)
	checkIs(t, "Double(3)", c.Double(3), true)
	checkLateOnes(t, c, 1, 102, 0, 1, 102, 1)
	was := known(cluster.Link(c))
	checkIs(t, "Drop(0)", c.Drop(0), true)
	checkIs(t, "Drop(0)", c.Drop(0), true)
	if got := known(cluster.Link(c)); got != was {
		t.Errorf("what was doubled came")
	}
	checkIs(t, "Deliver(1)", c.Deliver(1), true)
	checkStore(t, c, 1, 5, 1, false)
	checkIs(t, "Deliver(1)", c.Deliver(1), true)
	checkPromised(t, c, 2, 0, 7)
	checkLateOnes(t, c, 0, 1)
	checkIs(t, "Deliver(1)", c.Deliver(1), true)
	checkStore(t, c, 1, 5, 1, false)
}

// TestNoneIsLate: there is nothing to be taken.
func TestNoneIsLate(t *testing.T) {
	c := three(t)
	was := world(cluster.Link(c))
	for _, k := range append(beside(1), 0) {
		checkIs(t, "Deliver", c.Deliver(k), false)
		checkIs(t, "Drop", c.Drop(k), false)
		checkIs(t, "Double", c.Double(k), false)
	}
	checkWorld(t, c, was)
}
