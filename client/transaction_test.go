package client_test

import (
	"math"
	"strings"
	"testing"

	"gazette/api"
	"gazette/client"
	"gazette/cluster"
)

func checkSettle(t *testing.T, c *cluster.Cluster) {
	t.Helper()
	if n, e := c.Settle(); n != 0 || e != api.OK {
		t.Errorf("Settle: %d, %d", n, e)
	}
}

// P1903

func TestStart(t *testing.T) {
	c, x := started(t, 2)
	checkProducer(t, x, 0, 0, true)
	checkIs(t, "Holds", mustBroker(t, c, 0).Holds(bookKey), true)
	for epoch := 1; epoch < 4; epoch++ {
		checkSend(t, x, 0, "a", epoch-1, api.OK)
		check(t, "Start", x.Start(10), api.OK)
		checkProducer(t, x, 0, epoch, true)
	}
	checkTurn(t, x, 0)
}

// TestStartWithATimeout: it is how long a transaction may be open.
func TestStartWithATimeout(t *testing.T) {
	for _, n := range []int{1, 2, 10, 3600} {
		for k, want := range []api.Errno{api.OK, api.ErrFence} {
			c := box(t, 1)
			x := mustClient(t, c, "x", 1)
			check(t, "Start", x.Start(n), api.OK)
			check(t, "Begin", x.Begin(), api.OK)
			checkSend(t, x, 0, "a", 0, api.OK)
			c.Tick(n - 1 + k)
			checkSettle(t, c)
			check(t, "End", x.End(true), want)
		}
	}
}

// TestStartWithAWrongTimeout: nothing has changed.
func TestStartWithAWrongTimeout(t *testing.T) {
	c, x := begun(t, 2)
	checkSend(t, x, 0, "a", 0, api.OK)
	dark(c)
	_, e := x.Send(0, records("b"))
	checkIs(t, "an error", e != api.OK, true)
	lit(c)
	for _, n := range []int{0, -1, 3601, 1 << 48, math.MinInt, math.MaxInt} {
		check(t, "Start", x.Start(n), api.ErrArg)
		checkProducer(t, x, 0, 0, true)
		checkPending(t, x, 0)
		checkInTxn(t, x, true)
	}
	checkRetry(t, x, 0, 1, api.OK)
	check(t, "End", x.End(true), api.OK)
	checkRows(t, x, 0, true, "+0:a +1:b")
	y := mustClient(t, c, "y", 3)
	check(t, "Start", y.Start(0), api.ErrArg)
	checkProducer(t, y, 0, 0, false)
	checkSend(t, y, 0, "a", 0, api.ErrState)
}

// TestStartBehindAPendingBatch: it is not pending any more, and the numbers begin anew.
func TestStartBehindAPendingBatch(t *testing.T) {
	for _, kind := range []int{lost, unanswered, late} {
		c, x := once(t)
		checkSend(t, x, 0, "a", 0, api.OK)
		checkSend(t, x, 1, "b", 0, api.OK)
		luck(c, kind, 3)
		checkSend(t, x, 0, "c", 0, api.ErrLost)
		checkPending(t, x, 0)
		checkTurn(t, x, 1)
		check(t, "Start", x.Start(10), api.OK)
		checkProducer(t, x, 0, 1, true)
		checkPending(t, x)
		checkTurn(t, x, 1)
		checkRetry(t, x, 0, 0, api.ErrNone)
		// What nobody answered may be there.
		first := 1
		if kind == unanswered {
			first = 2
		}
		checkSend(t, x, 0, "d", first, api.OK)
		for c.Deliver(0) {
		}
		checkSend(t, x, 0, "e", first+1, api.OK)
		checkSend(t, x, 1, "f", 1, api.OK)
		checkRows(t, x, 0, false, []string{"0:a 1:d 2:e", "0:a 1:c 2:d 3:e"}[first-1])
	}
}

// TestStartInATransaction: it is in none any more, and what it wrote does not count.
func TestStartInATransaction(t *testing.T) {
	c, x := begun(t, 2)
	checkSend(t, x, 0, "a", 0, api.OK)
	check(t, "Start", x.Start(10), api.OK)
	checkInTxn(t, x, false)
	check(t, "End", x.End(true), api.ErrState)
	check(t, "Begin", x.Begin(), api.OK)
	check(t, "End", x.End(true), api.OK)
	checkRows(t, x, 0, true, "")
	checkSettle(t, c)
	// The places are gone, too: the partition is added again.
	check(t, "Begin", x.Begin(), api.OK)
	checkSend(t, x, 0, "b", 2, api.OK)
	check(t, "End", x.End(true), api.OK)
	checkRows(t, x, 0, true, "+2:b")
	checkRows(t, x, 0, false, "+0:a +2:b")
}

// TestStartBehindABegin: of a transaction without places nobody else knows.
func TestStartBehindABegin(t *testing.T) {
	_, x := begun(t, 1)
	check(t, "Start", x.Start(10), api.OK)
	checkInTxn(t, x, false)
	checkSend(t, x, 0, "a", 0, api.OK)
	checkRows(t, x, 0, true, "0:a")
	check(t, "Begin", x.Begin(), api.OK)
}

// TestAStartThatIsRefused: the transaction of that name is not marked yet. Nothing has changed.
func TestAStartThatIsRefused(t *testing.T) {
	c, x := begun(t, 2)
	checkSend(t, x, 0, "a", 0, api.OK)
	take(t, c, 1, 0)
	check(t, "End", x.End(true), api.OK)
	y := mustClient(t, c, "x", 5)
	for range 2 {
		check(t, "Start", y.Start(10), api.ErrState)
		checkProducer(t, y, 0, 0, false)
		checkTurn(t, y, 0)
		check(t, "Start", x.Start(10), api.ErrState)
		checkProducer(t, x, 0, 0, true)
	}
	checkSettle(t, c)
	check(t, "Start", y.Start(10), api.OK)
	checkProducer(t, y, 0, 1, true)
	checkProducer(t, x, 0, 0, true)
}

// TestAStartThatPasses changes nothing, either; it may be that the epoch was granted all the same.
func TestAStartThatPasses(t *testing.T) {
	for kind, epoch := range map[int]int{lost: 1, unanswered: 2} {
		c, x := once(t)
		check(t, "Begin", x.Begin(), api.OK)
		luck(c, kind, 3)
		check(t, "Start", x.Start(10), api.ErrLost)
		checkProducer(t, x, 0, 0, true)
		checkInTxn(t, x, true)
		check(t, "Start", x.Start(10), api.OK)
		checkProducer(t, x, 0, epoch, true)
		checkInTxn(t, x, false)
	}
}

// P1906

// TestBeginAndEnd in each state.
func TestBeginAndEnd(t *testing.T) {
	c := box(t, 2)
	x := mustClient(t, c, "x", 1)
	both := func(when string, begin, end api.Errno) {
		t.Helper()
		check(t, "Begin "+when, x.Begin(), begin)
		check(t, "End(true) "+when, x.End(true), end)
		check(t, "End(false) "+when, x.End(false), api.ErrState)
	}
	both("without a producer", api.ErrState, api.ErrState)
	check(t, "Start", x.Start(10), api.OK)
	check(t, "End(true) in none", x.End(true), api.ErrState)
	check(t, "End(false) in none", x.End(false), api.ErrState)
	both("in none", api.OK, api.OK)
	dark(c)
	checkSend(t, x, 0, "a", 0, api.ErrLost)
	both("with something pending", api.ErrState, api.ErrState)
	lit(c)
	checkRetry(t, x, 0, 0, api.OK) // by the broker 1
	check(t, "Begin", x.Begin(), api.OK)
	check(t, "Begin in a transaction", x.Begin(), api.ErrState)
	checkSend(t, x, 0, "b", 1, api.OK)
	check(t, "Begin in a transaction with places", x.Begin(), api.ErrState)
	luck(c, lost, 50)
	checkSend(t, x, 0, "c", 0, api.ErrLost)
	both("with something pending in a transaction", api.ErrState, api.ErrState)
	check(t, "Well", c.Well(), api.OK)
	both("with something pending in a transaction, when all is well", api.ErrState, api.ErrState)
	checkRetry(t, x, 0, 0, api.ErrNone) // there is no broker 2
	checkRetry(t, x, 0, 2, api.OK)
	check(t, "Begin", x.Begin(), api.ErrState)
	check(t, "End", x.End(true), api.OK)
	both("behind an End", api.OK, api.OK)
	checkRows(t, x, 0, true, "0:a +1:b +2:c")
}

// TestSomethingPendingForAnotherPartition, or one that there is not: neither Begin nor End.
func TestSomethingPendingForAnotherPartition(t *testing.T) {
	c, x := once(t)
	luck(c, lost, 50)
	checkSend(t, x, 1, "a", 0, api.ErrLost)
	check(t, "Well", c.Well(), api.OK)
	check(t, "Begin", x.Begin(), api.ErrState)
	checkSend(t, x, 0, "b", 0, api.OK)
	check(t, "Begin", x.Begin(), api.ErrState)
	checkRetry(t, x, 1, 0, api.OK)
	check(t, "Begin", x.Begin(), api.OK)
	checkSend(t, x, 0, "c", 1, api.OK)
	checkSend(t, x, -1, "d", 0, api.ErrArg)
	check(t, "End", x.End(true), api.ErrState)
	check(t, "End", x.End(false), api.ErrState)
	checkInTxn(t, x, true)
}

// TestEndWithoutPlaces asks nobody: it is OK even of one that is fenced.
func TestEndWithoutPlaces(t *testing.T) {
	c := lone(t)
	x := mustClient(t, c, "x", 3)
	check(t, "Start", x.Start(10), api.OK)
	for _, yes := range []bool{true, false} {
		checkSent(t, c, "Begin and End", 0, func() {
			check(t, "Begin", x.Begin(), api.OK)
			check(t, "End", x.End(yes), api.OK)
			checkInTxn(t, x, false)
		})
	}
	check(t, "Start of another one", mustClient(t, c, "x", 3).Start(10), api.OK)
	for kind := range 3 {
		c.Stop(kind, 0)
	}
	check(t, "Begin", x.Begin(), api.OK)
	check(t, "End", x.End(true), api.OK)
	checkInTxn(t, x, false)
}

// TestEndSaysYesOrNo: all partitions count, or none does.
func TestEndSaysYesOrNo(t *testing.T) {
	c, x := begun(t, 2)
	checkSend(t, x, 0, "a", 0, api.OK)
	checkSend(t, x, 1, "b", 0, api.OK)
	checkSend(t, x, 0, "c", 1, api.OK)
	checkRows(t, x, 0, true, "")
	checkRows(t, x, 1, true, "")
	check(t, "End", x.End(false), api.OK)
	checkInTxn(t, x, false)
	checkRows(t, x, 0, true, "")
	checkRows(t, x, 0, false, "+0:a +1:c")
	checkSend(t, x, 0, "d", 3, api.OK)
	check(t, "Begin", x.Begin(), api.OK)
	checkSend(t, x, 0, "e", 4, api.OK)
	checkSend(t, x, 1, "f", 2, api.OK)
	checkRows(t, x, 0, true, "3:d")
	check(t, "End", x.End(true), api.OK)
	checkRows(t, x, 0, true, "3:d +4:e")
	checkRows(t, x, 1, true, "+2:f")
	if _, stable, end, e := mustBroker(t, c, 0).Ends(1); stable != 4 || end != 4 || e != api.OK {
		t.Errorf("Ends: %d, %d, %d", stable, end, e)
	}
}

// TestAnEndThatPasses: it stays in the transaction, and can be asked again.
func TestAnEndThatPasses(t *testing.T) {
	for _, yes := range []bool{true, false} {
		for _, kind := range []int{lost, unanswered, late} {
			c, x := once(t)
			check(t, "Begin", x.Begin(), api.OK)
			checkSend(t, x, 0, "a", 0, api.OK)
			luck(c, kind, 3)
			check(t, "End", x.End(yes), api.ErrLost)
			checkInTxn(t, x, true)
			check(t, "Begin", x.Begin(), api.ErrState)
			checkTurn(t, x, 1)
			c.Stop(cluster.Server, 1)
			check(t, "End", x.End(yes), api.ErrPower)
			check(t, "End", x.End(yes), api.ErrNone) // of the cluster: there is no broker 2
			checkInTxn(t, x, true)
			check(t, "End", x.End(yes), api.OK)
			checkInTxn(t, x, false)
			checkSettle(t, c)
			checkRows(t, x, 0, true, map[bool]string{true: "+0:a"}[yes])
		}
	}
}

// TestAnEndThatDoesNotPass: it is in none, and the error is the answer.
func TestAnEndThatDoesNotPass(t *testing.T) {
	for _, yes := range []bool{true, false} {
		// Another one of its name has started, or the transaction's time is over.
		for _, fence := range []func(c *cluster.Cluster) api.Errno{
			func(c *cluster.Cluster) api.Errno { return mustClient(t, c, "x", 5).Start(10) },
			func(c *cluster.Cluster) api.Errno {
				c.Tick(10)
				_, e := c.Settle()
				return e
			},
		} {
			c, x := begun(t, 2)
			checkSend(t, x, 0, "a", 0, api.OK)
			check(t, "the fence", fence(c), api.OK)
			check(t, "End", x.End(yes), api.ErrFence)
			checkInTxn(t, x, false)
			checkTurn(t, x, 0)
			checkProducer(t, x, 0, 0, true)
			check(t, "End", x.End(yes), api.ErrState)
			check(t, "Begin", x.Begin(), api.OK)
			checkSettle(t, c)
			checkRows(t, x, 0, true, "")
		}
		// It was decided otherwise: nobody answered that End, and another broker opens the logs.
		c, x := once(t)
		check(t, "Begin", x.Begin(), api.OK)
		checkSend(t, x, 0, "a", 0, api.OK)
		luck(c, unanswered, 3)
		check(t, "End", x.End(yes), api.ErrLost)
		check(t, "End otherwise", x.End(!yes), api.ErrState)
		checkInTxn(t, x, false)
		checkSettle(t, c)
		checkRows(t, x, 0, true, map[bool]string{true: "+0:a"}[yes])
	}
}

// TestAnEndThatIsDone: it was written, and marked, when nobody had answered it.
func TestAnEndThatIsDone(t *testing.T) {
	for _, yes := range []bool{true, false} {
		c, x := once(t)
		check(t, "Begin", x.Begin(), api.OK)
		checkSend(t, x, 0, "a", 0, api.OK)
		luck(c, unanswered, 3)
		check(t, "End", x.End(yes), api.ErrLost)
		checkSettle(t, c)
		check(t, "Well", c.Well(), api.OK)
		check(t, "End", x.End(yes), api.OK)
		checkInTxn(t, x, false)
		checkRows(t, x, 0, true, map[bool]string{true: "+0:a"}[yes])
	}
}

// TestBeginHasNoPlaces of the transaction ahead of it.
func TestBeginHasNoPlaces(t *testing.T) {
	c := lone(t)
	x := mustClient(t, c, "x", 1)
	mustJoin(t, mustBroker(t, c, 0), 0)
	check(t, "Start", x.Start(10), api.OK)
	for i := range 4 {
		check(t, "Begin", x.Begin(), api.OK)
		checkSend(t, x, 0, "a", 2*i, api.OK)
		check(t, "Promise", x.Promise(0, "m", 1, 0, i), api.OK)
		check(t, "End", x.End(i%2 == 0), api.OK)
		check(t, "Begin", x.Begin(), api.OK)
		checkSent(t, c, "End without places", 0, func() { check(t, "End", x.End(true), api.OK) })
	}
	checkRows(t, x, 0, true, "+0:a +4:a")
}

// P1907

func TestPromise(t *testing.T) {
	c, x := started(t, 2)
	b := mustBroker(t, c, 0)
	for _, g := range []int{0, 7, 99} {
		mustJoin(t, b, g)
		check(t, "Begin", x.Begin(), api.OK)
		check(t, "Promise", x.Promise(g, "m", 1, 0, 5), api.OK)
		check(t, "Promise", x.Promise(g, "m", 1, 1, 6), api.OK)
		check(t, "Promise", x.Promise(g, "m", 1, 0, 7), api.OK)
		checkOffset(t, b, g, 0, 0, false)
		check(t, "End", x.End(true), api.OK)
		checkOffset(t, b, g, 0, 7, true)
		checkOffset(t, b, g, 1, 6, true)
		check(t, "Begin", x.Begin(), api.OK)
		check(t, "Promise", x.Promise(g, "m", 1, 0, 9), api.OK)
		check(t, "End", x.End(false), api.OK)
		checkOffset(t, b, g, 0, 7, true)
	}
}

func TestPromiseOutsideOfATransaction(t *testing.T) {
	c := box(t, 1)
	x := mustClient(t, c, "x", 1)
	mustJoin(t, mustBroker(t, c, 0), 0)
	outside := func() {
		t.Helper()
		for _, g := range []int{-1, 0, 99, 100, math.MinInt, math.MaxInt} {
			check(t, "Promise", x.Promise(g, "m", 1, 0, 5), api.ErrState)
		}
	}
	outside()
	check(t, "Start", x.Start(10), api.OK)
	outside()
	check(t, "Begin", x.Begin(), api.OK)
	check(t, "Promise", x.Promise(0, "m", 1, 0, 5), api.OK)
	check(t, "End", x.End(true), api.OK)
	outside()
	check(t, "Begin", x.Begin(), api.OK)
	check(t, "Start", x.Start(10), api.OK)
	outside()
}

// TestPromiseOfNoGroup asks nobody.
func TestPromiseOfNoGroup(t *testing.T) {
	c := lone(t)
	x := mustClient(t, c, "x", 1)
	check(t, "Start", x.Start(10), api.OK)
	check(t, "Begin", x.Begin(), api.OK)
	checkSent(t, c, "Promise of no group", 0, func() {
		for _, g := range []int{-1, 100, 101, 200, 300, -200, math.MinInt, math.MaxInt} {
			check(t, "Promise", x.Promise(g, "m", 1, 0, 5), api.ErrArg)
		}
		check(t, "End without places", x.End(true), api.OK)
	})
}

// TestPromiseAddsItsGroup, if it was not added.
func TestPromiseAddsItsGroup(t *testing.T) {
	c := lone(t)
	x := mustClient(t, c, "x", 1)
	b := mustBroker(t, c, 0)
	for _, g := range []int{0, 1, 98} {
		mustJoin(t, b, g)
	}
	check(t, "Start", x.Start(10), api.OK)
	check(t, "Begin", x.Begin(), api.OK)
	for i, s := range []struct{ g, messages int }{{0, 2}, {0, 1}, {1, 2}, {0, 1}, {98, 2}, {98, 1}, {1, 1}} {
		checkSent(t, c, "Promise", s.messages, func() { check(t, "Promise", x.Promise(s.g, "m", 1, 0, i), api.OK) })
	}
	check(t, "End", x.End(true), api.OK)
	for g, offset := range map[int]int{0: 3, 1: 6, 98: 5} {
		checkOffset(t, b, g, 0, offset, true)
	}
	// The place of a group is 200 and its number; a batch may have added it.
	check(t, "Begin", x.Begin(), api.OK)
	checkSend(t, x, firstGroup+1, "a", 0, api.ErrArg)
	checkSent(t, c, "Promise", 1, func() { check(t, "Promise", x.Promise(1, "m", 1, 0, 9), api.OK) })
	check(t, "End", x.End(true), api.OK)
	checkOffset(t, b, 1, 0, 9, true)
}

// TestAPromiseThatIsRefused by the group, which is one of the places all the same.
func TestAPromiseThatIsRefused(t *testing.T) {
	for _, s := range []struct {
		member            string
		gen, part, offset int
		want              api.Errno
	}{
		{"n", 1, 0, 5, api.ErrGroup}, {"m", 0, 0, 5, api.ErrGroup}, {"m", 2, 0, 5, api.ErrGroup}, {"m", 1, 2, 5, api.ErrArg},
		{"", 1, 0, 5, api.ErrArg}, {strings.Repeat("m", 65), 1, 0, 5, api.ErrArg}, {strings.Repeat("m", 64), 1, 0, 5, api.ErrGroup},
		{"m", 1, -1, 5, api.ErrArg}, {"m", 1, 32, 5, api.ErrArg}, {"m", 1, 0, -1, api.ErrArg}, {"m", 1, 0, 1 << 48, api.ErrArg},
		{"m", -1, 0, 5, api.ErrArg}, {"m", 1 << 48, 0, 5, api.ErrArg}, {"m", 1, 0, 1<<48 - 1, api.OK},
	} {
		c := lone(t)
		x := mustClient(t, c, "x", 2)
		mustJoin(t, mustBroker(t, c, 0), 0)
		check(t, "Start", x.Start(10), api.OK)
		check(t, "Begin", x.Begin(), api.OK)
		check(t, "Promise", x.Promise(0, s.member, s.gen, s.part, s.offset), s.want)
		checkTurn(t, x, 0)
		checkInTxn(t, x, true)
		// It was added: one message is sent.
		checkSent(t, c, "Promise", 1, func() { check(t, "Promise", x.Promise(0, "m", 1, 1, 6), api.OK) })
		check(t, "End", x.End(true), api.OK)
		checkOffset(t, mustBroker(t, c, 0), 0, 1, 6, true)
		checkOffset(t, mustBroker(t, c, 0), 0, 0, s.offset*int(1-min(s.want, 1)), s.want == api.OK)
	}
}

// TestAPromiseThatPasses: it can be asked again, with or without the Add.
func TestAPromiseThatPasses(t *testing.T) {
	c := box(t, 2)
	x := mustClient(t, c, "x", 1)
	mustJoin(t, mustBroker(t, c, 0), 0)
	check(t, "Start", x.Start(10), api.OK)
	check(t, "Begin", x.Begin(), api.OK)
	luck(c, lost, 3)
	check(t, "Promise, of which the Add is lost", x.Promise(0, "m", 1, 0, 5), api.ErrLost)
	check(t, "Well", c.Well(), api.OK)
	checkTurn(t, x, 1)
	c.Luck([]int{comes, comes, comes})
	check(t, "Promise", x.Promise(0, "m", 1, 0, 6), api.OK)
	check(t, "End", x.End(true), api.OK)
	checkOffset(t, mustBroker(t, c, 1), 0, 0, 6, true)
	check(t, "Begin", x.Begin(), api.OK)
	c.Luck([]int{comes, comes, comes, unanswered, unanswered, unanswered})
	check(t, "Promise, which is not answered", x.Promise(0, "m", 1, 0, 7), api.ErrLost)
	checkInTxn(t, x, true)
	c.Stop(cluster.Server, 0)
	c.Stop(cluster.Server, 1)
	check(t, "Promise", x.Promise(0, "m", 1, 0, 8), api.ErrNone)
	check(t, "Promise", x.Promise(0, "m", 1, 0, 8), api.ErrPower)
	check(t, "Well", c.Well(), api.OK)
	check(t, "End", x.End(true), api.OK)
	checkOffset(t, mustBroker(t, c, 1), 0, 0, 7, true)
}

// TestAPromiseOfOneThatIsFenced: by the book, or, where the group was added, by the group, if it knows.
func TestAPromiseOfOneThatIsFenced(t *testing.T) {
	c, x := begun(t, 2)
	mustJoin(t, mustBroker(t, c, 0), 0)
	mustJoin(t, mustBroker(t, c, 0), 1)
	check(t, "Promise", x.Promise(0, "m", 1, 0, 5), api.OK)
	check(t, "Start of another one", mustClient(t, c, "x", 5).Start(10), api.OK)
	check(t, "Promise", x.Promise(1, "m", 1, 0, 5), api.ErrFence)
	checkSettle(t, c)
	check(t, "Promise", x.Promise(0, "m", 1, 0, 6), api.ErrFence)
	check(t, "End", x.End(true), api.ErrFence)
	checkOffset(t, mustBroker(t, c, 0), 0, 0, 0, false)
}

// P1910

// TestFenced: behind a Start of another one of its name an elder one's sends in transactions, and its ends, are errors, wherever it stands.
func TestFenced(t *testing.T) {
	for _, stand := range []struct {
		name string
		do   func(c *cluster.Cluster, x *client.Client)
	}{
		{"outside of a transaction", func(*cluster.Cluster, *client.Client) {}},
		{"behind a Begin", func(_ *cluster.Cluster, x *client.Client) { x.Begin() }},
		{"with a place", func(_ *cluster.Cluster, x *client.Client) { x.Begin(); x.Send(0, records("a")) }},
		{"with both places", func(_ *cluster.Cluster, x *client.Client) {
			x.Begin()
			x.Send(0, records("a"))
			x.Send(1, records("b"))
		}},
		{"with a place and something pending", func(c *cluster.Cluster, x *client.Client) {
			x.Begin()
			x.Send(1, records("a"))
			luck(c, lost, 500)
			x.Send(0, records("b"))
		}},
		{"behind an End that is not answered", func(c *cluster.Cluster, x *client.Client) {
			x.Begin()
			x.Send(0, records("a"))
			luck(c, unanswered, 500)
			x.End(true)
		}},
	} {
		c, x := started(t, 2)
		stand.do(c, x)
		check(t, "Well", c.Well(), api.OK)
		y := mustClient(t, c, "x", 10)
		if y.Start(10) != api.OK {
			checkSettle(t, c)
			check(t, "Start "+stand.name, y.Start(10), api.OK)
		}
		pending := x.Pending(0)
		if pending {
			checkRetry(t, x, 0, 0, api.ErrFence)
			check(t, "End "+stand.name, x.End(true), api.ErrState)
		}
		x.Begin()
		for part := range 2 {
			if _, e := x.Send(part, records("never")); e != api.ErrFence && !(pending && part == 0 && e == api.ErrState) {
				t.Errorf("Send(%d) %s: %d", part, stand.name, e)
			}
		}
		if e := x.End(true); e == api.OK {
			t.Errorf("End %s: OK", stand.name)
		}
		check(t, "Well", c.Well(), api.OK)
		checkSettle(t, c)
		check(t, "Begin of the newer one", y.Begin(), api.OK)
		for part := range 2 {
			if _, e := y.Send(part, records("newer")); e != api.OK {
				t.Errorf("Send(%d) of the newer one: %d", part, e)
			}
		}
		check(t, "End of the newer one", y.End(true), api.OK)
		for part := range 2 {
			rows, _, _ := y.Read(part, 0, many, false)
			if got := shown(rows); strings.Contains(got, "never") || !strings.Contains(got, "newer") {
				t.Errorf("%s the partition %d has %s", stand.name, part, got)
			}
		}
	}
}
