package cluster_test

import (
	"math"
	"testing"

	"gazette/api"
	"gazette/cluster"
)

// P1806

func TestTick(t *testing.T) {
	c := lone(t)
	now := 0
	for _, x := range []struct {
		n    int
		want api.Errno
	}{
		{0, api.OK}, {1, api.OK}, {-1, api.ErrArg}, {3600, api.OK}, {3601, api.ErrArg}, {3599, api.OK}, {0, api.OK},
		{math.MinInt, api.ErrArg}, {math.MaxInt, api.ErrArg}, {7200, api.ErrArg}, {1 << 40, api.ErrArg}, {10, api.OK},
	} {
		check(t, "Tick", c.Tick(x.n), x.want)
		if x.want == api.OK {
			now += x.n
		}
		checkNow(t, c, now)
	}
}

// TestTheEndOfTheClock: there is a last second.
func TestTheEndOfTheClock(t *testing.T) {
	t.Parallel()
	c := lone(t)
	const last = 1 << 40
	for range last / 3600 {
		if e := c.Tick(3600); e != api.OK {
			t.Fatalf("Tick(3600) at %d: %d", c.Now(), e)
		}
	}
	left := last % 3600
	checkNow(t, c, last-left)
	check(t, "Tick(3600)", c.Tick(3600), api.ErrArg)
	check(t, "Tick by one too many", c.Tick(left+1), api.ErrArg)
	checkNow(t, c, last-left)
	check(t, "Tick", c.Tick(left-1), api.OK)
	check(t, "Tick(2)", c.Tick(2), api.ErrArg)
	check(t, "Tick(1)", c.Tick(1), api.OK)
	checkNow(t, c, last)
	check(t, "Tick(1)", c.Tick(1), api.ErrArg)
	check(t, "Tick(0)", c.Tick(0), api.OK)
	check(t, "Tick(-1)", c.Tick(-1), api.ErrArg)
	checkNow(t, c, last)
	// Whoever began a transaction ahead of it is too late now.
	b := mustBroker(t, c, 0)
	checkTxn(t, b, start("x", 10, 0), api.OK)
	checkTxn(t, b, add(0, 0, 0, last-10), api.OK)
	checkProduce(t, b, 0, in(0, 0, 0, "a"), 0, api.OK)
	checkSettle(t, c, 0, api.OK)
	checkEnds(t, b, 0, 0, 2, 2, api.OK)
}

// TestTheClockAlone: nothing but Tick moves it.
func TestTheClockAlone(t *testing.T) {
	c := three(t)
	c.Tick(7)
	checkProduce(t, mustBroker(t, c, 0), 0, nobodys("a"), 0, api.OK)
	c.Stop(cluster.Node, 0)
	c.Start(cluster.Node, 0, nil)
	c.Settle()
	c.Well()
	checkNow(t, c, 7)
}
