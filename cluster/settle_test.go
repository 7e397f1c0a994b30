package cluster_test

import (
	"testing"

	"gazette/api"
	"gazette/cluster"
	"gazette/txn"
)

// opened has the broker i begin a transaction at the clock, with rows in both partitions.
func opened(t *testing.T, c *cluster.Cluster, i int) {
	t.Helper()
	b := mustBroker(t, c, i)
	checkTxn(t, b, start("x", 10, c.Now()), api.OK)
	for part := range 2 {
		checkTxn(t, b, add(0, 0, part, c.Now()), api.OK)
		checkProduce(t, b, part, in(0, 0, 0, "a"), 0, api.OK)
	}
}

// P1808

// TestSettleByTheFirstThatIsUp: who has asked holds the book's log.
func TestSettleByTheFirstThatIsUp(t *testing.T) {
	for first := range 4 {
		c := mustCluster(t, cluster.Spec{Nodes: 1, Acceptors: 1, Brokers: 4, Parts: 1, Session: 1, Blocks: 50})
		for i := range first {
			c.Stop(cluster.Server, i)
		}
		checkSettle(t, c, 0, api.OK)
		for i := first; i < 4; i++ {
			checkIs(t, "Holds", mustBroker(t, c, i).Holds(bookKey), i == first)
		}
		for i := range first {
			checkBroker(t, c, i, api.ErrPower)
		}
	}
}

func TestSettleByNobody(t *testing.T) {
	c := three(t)
	opened(t, c, 0)
	c.Tick(100)
	c.Stop(cluster.Server, 0)
	c.Stop(cluster.Server, 1)
	was := world(cluster.Link(c))
	luck(c, lost, 3)
	checkSettle(t, c, 0, api.ErrPower)
	if n := netOf(c).Left(); n != 3 {
		t.Errorf("messages were sent")
	}
	c.Well()
	checkWorld(t, c, was)
	c.Stop(cluster.Server, 0)
	checkSettle(t, c, 0, api.OK)
	checkEnds(t, mustBroker(t, c, 1), 0, 0, 2, 2, api.OK)
}

// TestSettleAtTheClock: a transaction goes on till its time is over.
func TestSettleAtTheClock(t *testing.T) {
	c := three(t)
	c.Tick(3)
	opened(t, c, 1)
	for _, x := range []struct{ tick, stable, end int }{{0, 0, 1}, {9, 0, 1}, {1, 2, 2}, {5, 2, 2}} {
		c.Tick(x.tick)
		checkSettle(t, c, 0, api.OK)
		for part := range 2 {
			b := mustBroker(t, c, 1)
			b.Ends(part) // it may have to open the log again
			checkEnds(t, b, part, 0, x.stable, x.end, api.OK)
		}
	}
	rows, _, e := mustBroker(t, c, 1).Fetch(0, 0, 9, true)
	if len(rows) != 0 || e != api.OK {
		t.Errorf("what was not ended is committed: %v, %d", rows, e)
	}
}

// TestSettleOfWhatIsDecided: markers that are left from an End are written, whatever the clock says.
func TestSettleOfWhatIsDecided(t *testing.T) {
	for _, yes := range []bool{true, false} {
		c := three(t)
		opened(t, c, 1)
		for part := range 2 {
			mustLay(t, c, part) // the broker's markers come too late
		}
		checkTxn(t, mustBroker(t, c, 1), end(0, 0, yes), api.OK)
		checkEnds(t, mustBroker(t, c, 1), 0, 0, 0, 1, api.OK)
		checkSettle(t, c, 0, api.OK)
		for part := range 2 {
			rows, next, e := mustBroker(t, c, 0).Fetch(part, 0, 9, true)
			if len(rows) != map[bool]int{true: 1}[yes] || next != 2 || e != api.OK {
				t.Errorf("Fetch(%d) behind an End with %v: %v, %d, %d", part, yes, rows, next, e)
			}
		}
	}
}

// TestAnExpireThatIsRefused: the broker thinks that it has the book's log.
func TestAnExpireThatIsRefused(t *testing.T) {
	for _, x := range []struct {
		tick int
		want api.Errno // of what is only asked ErrOwner, of what is written ErrSeal
	}{{0, api.ErrOwner}, {10, api.ErrSeal}} {
		c := three(t)
		opened(t, c, 0)
		mustLay(t, c, bookKey)
		c.Tick(x.tick)
		checkSettle(t, c, 0, x.want)
		checkIs(t, "Holds", mustBroker(t, c, 0).Holds(bookKey), false)
		checkEnds(t, mustBroker(t, c, 0), 0, 0, 0, 1, api.OK)
		checkSettle(t, c, 0, api.OK)
	}
}

// TestAnExpireThatIsLost: the error of the Txn, and nothing is finished.
func TestAnExpireThatIsLost(t *testing.T) {
	c := three(t)
	opened(t, c, 0)
	c.Tick(10)
	luck(c, lost, 3)
	checkSettle(t, c, 0, api.ErrLost)
	mustHaveNoLuck(t, c)
	checkEnds(t, mustBroker(t, c, 0), 0, 0, 0, 1, api.OK)
	for i := range 3 {
		c.Stop(cluster.Acceptor, i)
	}
	checkSettle(t, c, 0, api.ErrLost)
	check(t, "Well", c.Well(), api.OK)
	checkSettle(t, c, 0, api.OK)
	checkEnds(t, mustBroker(t, c, 0), 0, 0, 2, 2, api.OK)
}

func TestAnExpireOfABookThatIsNone(t *testing.T) {
	c := three(t)
	mustLay(t, c, bookKey, []byte("no entry"))
	for range 2 {
		checkSettle(t, c, 0, api.ErrForm)
	}
}

// TestSomethingIsLeft: how many markers, and why. The Expire's own Finish comes to the first place that is another one's, and what Settle asks for to the second one.
func TestSomethingIsLeft(t *testing.T) {
	c := three(t)
	opened(t, c, 0)
	c.Tick(10)
	mustLay(t, c, 0)
	checkSettle(t, c, 0, api.OK)
	d := three(t)
	opened(t, d, 0)
	d.Tick(10)
	mustLay(t, d, 0)
	mustLay(t, d, 1)
	checkSettle(t, d, 1, api.ErrSeal)
	checkEnds(t, mustBroker(t, d, 0), 0, 0, 2, 2, api.OK)
	checkSettle(t, d, 0, api.OK)
	checkEnds(t, mustBroker(t, d, 0), 1, 0, 2, 2, api.OK)
}

// TestTwoAreLeft: no node answers behind the Expire.
func TestTwoAreLeft(t *testing.T) {
	c := three(t)
	opened(t, c, 0)
	c.Tick(10)
	// The Expire goes to three nodes; then the acceptors are asked whose the log is, and the first marker is lost. The second Finish can't open the partition's log.
	luck(c, comes, 6, lost, 3, comes, 3, lost, 30)
	checkSettle(t, c, 2, api.ErrLost)
	check(t, "Well", c.Well(), api.OK)
	checkSettle(t, c, 0, api.OK)
	for part := range 2 {
		checkEnds(t, mustBroker(t, c, 0), part, 0, 2, 2, api.OK)
	}
}

// TestSettleSendsWhatItsCallsSend: an Expire at the clock, and a Finish.
func TestSettleSendsWhatItsCallsSend(t *testing.T) {
	for _, tick := range []int{0, 9, 10, 11, 3600} {
		c, d := three(t), three(t)
		for _, x := range []*cluster.Cluster{c, d} {
			opened(t, x, 1)
			x.Tick(tick)
			luck(x, comes, 1000)
		}
		checkSettle(t, c, 0, api.OK)
		b := mustBroker(t, d, 0)
		checkTxn(t, b, txn.Event{Kind: txn.Expire, Now: d.Now()}, api.OK)
		if n, e := b.Finish(); n != 0 || e != api.OK {
			t.Errorf("Finish: %d, %d", n, e)
		}
		checkWorld(t, c, world(cluster.Link(d)))
	}
}
