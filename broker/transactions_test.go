package broker_test

import (
	"slices"
	"testing"

	"gazette/api"
	"gazette/broker"
	"gazette/group"
	"gazette/txn"
	"gazette/vlog"
)

func marked(producer, epoch, place int) txn.Event {
	return txn.Event{Kind: txn.Marked, Producer: producer, Epoch: epoch, Place: place}
}

func mark(producer, epoch int, yes bool) group.Event {
	return group.Event{Kind: group.Mark, Producer: producer, Epoch: epoch, Yes: yes}
}

func markerOf(kind, producer, epoch int) api.Batch {
	return api.Batch{Kind: kind, Producer: producer, Epoch: epoch}
}

// begin starts x, with the places that it writes to.
func begin(t *testing.T, b *broker.Broker, name string, producer, epoch int, places ...int) {
	t.Helper()
	checkTxn(t, b, start(name, 10, 0), producer, epoch, api.OK)
	for _, place := range places {
		checkTxn(t, b, add(producer, epoch, place, 0), 0, 0, api.OK)
	}
}

// P1705

func TestTxn(t *testing.T) {
	l, a, b := three(t)
	checkTxn(t, a, start("x", 10, 0), 0, 0, api.OK)
	checkTxn(t, a, start("y", 10, 0), 1, 0, api.OK)
	checkTxn(t, a, start("y", 20, 0), 1, 1, api.OK)
	checkHolds(t, a, 100)
	checkTxn(t, b, start("y", 20, 0), 1, 2, api.OK)
	checkTxn(t, b, add(1, 2, 1, 0), 0, 0, api.OK)
	checkTxn(t, b, add(1, 2, 1, 5), 0, 0, api.OK) // done
	checkTxn(t, b, add(1, 1, 1, 0), 0, 0, api.ErrFence)
	checkTxn(t, b, add(2, 0, 1, 0), 0, 0, api.ErrNone)
	checkTxn(t, b, end(0, 0, true), 0, 0, api.OK) // done: it is Empty
	checkTxn(t, b, end(1, 1, true), 0, 0, api.ErrFence)
	checkTxn(t, b, over(19), 0, 0, api.OK) // done: nobody's time is over
	checkHolds(t, b, 100)
	checkEntries(t, l, 100, txnBytes(t, start("x", 10, 0)), txnBytes(t, start("y", 10, 0)), txnBytes(t, start("y", 20, 0)), txnBytes(t, start("y", 20, 0)), txnBytes(t, add(1, 2, 1, 0)))
}

func TestTxnEventsThatMayNotBe(t *testing.T) {
	l, a, _ := three(t)
	begin(t, a, "x", 0, 0, 0)
	for _, x := range []txn.Event{marked(0, 0, 0), marked(0, 0, -1), {Kind: txn.Marked}} {
		mustOpen(t, l, 100)
		checkSilent(t, l, func() { checkTxn(t, a, x, 0, 0, api.ErrArg) })
	}
	checkHolds(t, a, 100)
	checkTxn(t, a, txn.Event{}, 0, 0, api.ErrOwner) // what may not be is not Marked: it is written
	for _, x := range []txn.Event{{}, {Kind: 6}, {Kind: -1}, start("", 10, 0), start("x", 0, 0), add(-1, 0, 0, 0), over(-1), {Kind: txn.End, Place: 1}} {
		checkTxn(t, a, x, 0, 0, api.ErrArg)
		checkHolds(t, a, 100)
	}
}

// TestEndFinishes: what was decided is marked at once, when all is well.
func TestEndFinishes(t *testing.T) {
	for _, yes := range []bool{true, false} {
		l, a, b := three(t)
		begin(t, a, "x", 0, 0, 0, 1, 200)
		checkProduce(t, a, 0, in(0, 0, 0, "a"), 0, api.OK)
		checkProduce(t, a, 0, nobodys("b"), 1, api.OK)
		checkGroup(t, a, 0, join("m", 0), api.OK, 1, 0, 1)
		checkGroup(t, a, 0, promise("m", 1, 1, 7, 0, 0), api.OK, 1, 0, 1)
		checkEnds(t, a, 0, 0, 0, 2, api.OK)
		checkTxn(t, a, end(0, 0, yes), 0, 0, api.OK)
		checkHolds(t, a, 0, 1, 100, 200)
		checkFinish(t, a, 0, api.OK)
		kind := api.Abort
		if yes {
			kind = api.Commit
			checkFetch(t, b, 0, 0, true, 3, "0:a", "1:b")
			checkOffset(t, b, 0, 1, 7, true, api.OK)
		} else {
			checkFetch(t, b, 0, 0, true, 3, "1:b")
			checkOffset(t, b, 0, 1, 0, false, api.OK)
		}
		checkEnds(t, b, 1, 0, 1, 1, api.OK) // nothing was written there but the marker
		checkEntries(t, l, 0, batchBytes(t, in(0, 0, 0, "a")), batchBytes(t, nobodys("b")), batchBytes(t, markerOf(kind, 0, 0)))
		checkEntries(t, l, 1, batchBytes(t, markerOf(kind, 0, 0)))
		checkEntries(t, l, 200, groupBytes(t, join("m", 0)), groupBytes(t, promise("m", 1, 1, 7, 0, 0)), groupBytes(t, mark(0, 0, yes)))
		checkEntries(t, l, 100, txnBytes(t, start("x", 10, 0)), txnBytes(t, add(0, 0, 0, 0)), txnBytes(t, add(0, 0, 1, 0)), txnBytes(t, add(0, 0, 200, 0)),
			txnBytes(t, end(0, 0, yes)), txnBytes(t, marked(0, 0, 0)), txnBytes(t, marked(0, 0, 1)), txnBytes(t, marked(0, 0, 200)))
	}
}

func TestExpireFinishes(t *testing.T) {
	l, a, b := three(t)
	begin(t, a, "x", 0, 0, 0)
	checkProduce(t, a, 0, in(0, 0, 0, "a"), 0, api.OK)
	checkTxn(t, b, over(9), 0, 0, api.OK)
	checkEnds(t, b, 0, 0, 0, 1, api.OK)
	checkTxn(t, b, over(10), 0, 0, api.OK)
	checkEnds(t, b, 0, 0, 2, 2, api.OK)
	checkFetch(t, b, 0, 0, true, 2)
	checkProduce(t, b, 0, in(0, 0, 1, "b"), 0, api.ErrFence)
	checkEntries(t, l, 0, batchBytes(t, in(0, 0, 0, "a")), batchBytes(t, markerOf(api.Abort, 0, 1)))
}

// TestInitDoesNotFinish: what it aborts waits for the next one who does.
func TestInitDoesNotFinish(t *testing.T) {
	_, a, _ := three(t)
	begin(t, a, "x", 0, 0, 0)
	checkProduce(t, a, 0, in(0, 0, 0, "a"), 0, api.OK)
	checkTxn(t, a, start("x", 10, 0), 0, 1, api.OK)
	checkEnds(t, a, 0, 0, 0, 1, api.OK)
	checkTxn(t, a, start("x", 10, 0), 0, 0, api.ErrState)
	checkTxn(t, a, add(0, 1, 0, 0), 0, 0, api.ErrState)
	checkEnds(t, a, 0, 0, 0, 1, api.OK)
	checkTxn(t, a, end(0, 1, true), 0, 0, api.ErrState)
	checkEnds(t, a, 0, 0, 0, 1, api.OK)
	checkTxn(t, a, over(0), 0, 0, api.OK) // done, and Finish is behind it nevertheless
	checkEnds(t, a, 0, 0, 2, 2, api.OK)
	checkFetch(t, a, 0, 0, true, 2)
	checkTxn(t, a, start("x", 10, 0), 0, 2, api.OK)
}

// TestAnErrorOfFinishCountsForNothing: and who sends an End again, that is done, finishes.
func TestAnErrorOfFinishCountsForNothing(t *testing.T) {
	l, a, _ := three(t)
	begin(t, a, "x", 0, 0, 0)
	checkProduce(t, a, 0, in(0, 0, 0, "a"), 0, api.OK)
	luck(l.Loglets.Net, comes, 3, lost, 3)
	checkTxn(t, a, end(0, 0, true), 0, 0, api.OK)
	checkHolds(t, a, 100)
	checkEnds(t, a, 0, 0, 0, 1, api.OK)
	luck(l.Register.Net, comes, 3, lost, 3) // sure of the End, not of what Finish asks
	checkTxn(t, a, end(0, 0, true), 0, 0, api.OK)
	checkHolds(t, a, 0)
	checkTxn(t, a, end(0, 0, false), 0, 0, api.ErrState)
	checkEnds(t, a, 0, 0, 0, 1, api.OK)
	checkTxn(t, a, end(0, 0, true), 0, 0, api.OK)
	checkFetch(t, a, 0, 0, true, 2, "0:a")
}

// P1706

// decided has the book of a new link know two transactions with these places: x, that is to be committed, and y, that is to be aborted. The broker holds the book, both partitions and the group 0.
func decided(t *testing.T, places ...int) (*vlog.Link, *broker.Broker) {
	t.Helper()
	l, a, _ := three(t)
	var entries [][]byte
	for producer, name := range []string{"x", "y"} {
		entries = append(entries, txnBytes(t, start(name, 10, 0)))
		for _, place := range places {
			entries = append(entries, txnBytes(t, add(producer, 0, place, 0)))
		}
		entries = append(entries, txnBytes(t, end(producer, 0, producer == 0)))
	}
	mustLay(t, l, 100, entries...)
	for part := range 2 {
		checkEnds(t, a, part, 0, 0, 0, api.OK)
	}
	checkOffset(t, a, 0, 0, 0, false, api.OK)
	checkTxn(t, a, add(9, 0, 0, 0), 0, 0, api.ErrNone)
	checkHolds(t, a, 0, 1, 100, 200)
	return l, a
}

// behind is what the log of the book has behind what decided laid there.
func behind(t *testing.T, l *vlog.Link, places int) []txn.Event {
	t.Helper()
	var list []txn.Event
	for _, b := range entriesOf(t, l, 100)[4+2*places:] {
		x, e := txn.GetEvent(b)
		if e != api.OK {
			t.Errorf("GetEvent(%q): %d", b, e)
		}
		list = append(list, x)
	}
	return list
}

func checkMarked(t *testing.T, l *vlog.Link, places int, want ...txn.Event) {
	t.Helper()
	if got := behind(t, l, places); !slices.Equal(got, want) {
		t.Errorf("the book has %+v, not %+v", got, want)
	}
}

// checkKeys looks which logs there are, by the numbers of the loglets.
func checkKeys(t *testing.T, l *vlog.Link, want ...int) {
	t.Helper()
	var got []int
	for _, n := range l.Loglets.Nodes {
		for _, id := range n.Store().Loglets() {
			got = append(got, id>>24)
		}
	}
	slices.Sort(got)
	if got = slices.Compact(got); !slices.Equal(got, want) {
		t.Errorf("there are logs of %v, not %v", got, want)
	}
}

func TestFinishOfNothing(t *testing.T) {
	l, a, b := three(t)
	checkFinish(t, a, 0, api.OK)
	checkHolds(t, a, 100)
	begin(t, b, "x", 0, 0, 0) // it is Open: nothing is to do
	checkFinish(t, a, 0, api.ErrOwner)
	checkHolds(t, a)
	checkFinish(t, a, 0, api.OK)
	silenced(l.Register.Net, func() { checkFinish(t, a, 0, api.ErrLost) })
	checkHolds(t, a)
	silenced(l.Register.Net, func() { checkFinish(t, a, 0, api.ErrLost) })
	checkKeys(t, l, 100)
}

func TestFinish(t *testing.T) {
	l, a := decided(t, 0, 1, 200)
	checkFinish(t, a, 0, api.OK)
	checkHolds(t, a, 0, 1, 100, 200)
	checkEntries(t, l, 0, batchBytes(t, markerOf(api.Commit, 0, 0)), batchBytes(t, markerOf(api.Abort, 1, 0)))
	checkEntries(t, l, 1, batchBytes(t, markerOf(api.Commit, 0, 0)), batchBytes(t, markerOf(api.Abort, 1, 0)))
	checkEntries(t, l, 200, groupBytes(t, mark(0, 0, true)), groupBytes(t, mark(1, 0, false)))
	checkMarked(t, l, 3, marked(0, 0, 0), marked(0, 0, 1), marked(0, 0, 200), marked(1, 0, 0), marked(1, 0, 1), marked(1, 0, 200))
}

// TestFinishOfAllPlaces: partitions that there are, and groups that there can be, get markers; any other place only counts as marked.
func TestFinishOfAllPlaces(t *testing.T) {
	places := []int{0, 1, 2, 31, 32, 99, 100, 101, 199, 200, 201, 298, 299, 300, 1000, 1<<48 - 1}
	l, a := decided(t, places...)
	checkFinish(t, a, 0, api.OK)
	checkHolds(t, a, 0, 1, 100, 200, 201, 298, 299)
	for _, key := range []int{0, 1} {
		checkEntries(t, l, key, batchBytes(t, markerOf(api.Commit, 0, 0)), batchBytes(t, markerOf(api.Abort, 1, 0)))
	}
	for _, key := range []int{200, 201, 298, 299} {
		checkEntries(t, l, key, groupBytes(t, mark(0, 0, true)), groupBytes(t, mark(1, 0, false)))
	}
	checkKeys(t, l, 0, 1, 100, 200, 201, 298, 299)
	var want []txn.Event
	for producer := range 2 {
		for _, place := range places {
			want = append(want, marked(producer, 0, place))
		}
	}
	checkMarked(t, l, len(places), want...)
	checkFinish(t, a, 0, api.ErrOwner)
	checkFinish(t, a, 0, api.OK)
}

// TestFinishBelowParts: how many partitions there are is what New was told.
func TestFinishBelowParts(t *testing.T) {
	l, _ := decided(t, 0, 2, 3, 31)
	b := mustBroker(t, l, 4, 3, 10)
	checkFinish(t, b, 0, api.OK)
	checkHolds(t, b, 0, 2, 100)
	l, _ = decided(t, 0, 2, 3, 31)
	b = mustBroker(t, l, 4, 32, 10)
	checkFinish(t, b, 0, api.OK)
	checkHolds(t, b, 0, 2, 3, 31, 100)
}

// TestFinishWherePlacesAreFenced: who knows a newer epoch gets no marker, and all goes on.
func TestFinishWherePlacesAreFenced(t *testing.T) {
	l, a := decided(t, 0, 1, 200)
	checkProduce(t, a, 0, of(0, 5, 0, "a"), 0, api.OK)
	checkGroup(t, a, 0, join("m", 0), api.OK, 1, 0, 1)
	checkGroup(t, a, 0, promise("m", 1, 0, 7, 1, 3), api.OK, 1, 0, 1)
	checkFinish(t, a, 0, api.OK)
	checkHolds(t, a, 0, 1, 100, 200)
	checkOffset(t, a, 0, 0, 0, false, api.OK)
	checkEntries(t, l, 0, batchBytes(t, of(0, 5, 0, "a")), batchBytes(t, markerOf(api.Abort, 1, 0)))
	checkEntries(t, l, 200, groupBytes(t, join("m", 0)), groupBytes(t, promise("m", 1, 0, 7, 1, 3)), groupBytes(t, mark(0, 0, true)))
	checkMarked(t, l, 3, marked(0, 0, 0), marked(0, 0, 1), marked(0, 0, 200), marked(1, 0, 0), marked(1, 0, 1), marked(1, 0, 200))
}

// TestFinishIsNotSureOfAFence: a place that is another one's may know more than that.
func TestFinishIsNotSureOfAFence(t *testing.T) {
	l, a := decided(t, 0)
	checkProduce(t, a, 0, of(0, 5, 0, "a"), 0, api.OK)
	mustOpen(t, l, 0)
	checkFinish(t, a, 2, api.ErrOwner)
	checkHolds(t, a, 1, 100, 200)
	checkMarked(t, l, 1)
}

// TestFinishWithAnErrorInItsMidst: what was marked ahead of it counts, and the next one goes on.
func TestFinishWithAnErrorInItsMidst(t *testing.T) {
	all := []txn.Event{marked(0, 0, 0), marked(0, 0, 1), marked(0, 0, 200), marked(1, 0, 0), marked(1, 0, 1), marked(1, 0, 200)}
	keys := []int{0, 1, 200, 0, 1, 200}
	for done := range all {
		// The marker fails.
		l, a := decided(t, 0, 1, 200)
		luck(l.Loglets.Net, comes, 6*done, lost, 3)
		checkFinish(t, a, 6-done, api.ErrLost)
		if a.Holds(keys[done]) || !a.Holds(100) {
			t.Errorf("behind %d: it holds %d: %v, the book: %v", done, keys[done], a.Holds(keys[done]), a.Holds(100))
		}
		checkFinish(t, a, 0, api.OK)
		checkMarked(t, l, 3, all...)
		// The marker comes, and that it was written does not.
		l, a = decided(t, 0, 1, 200)
		luck(l.Loglets.Net, comes, 6*done+3, lost, 3)
		checkFinish(t, a, 6-done, api.ErrLost)
		checkHolds(t, a, 0, 1, 200)
		checkMarked(t, l, 3, all[:done]...)
		checkFinish(t, a, 0, api.OK)
		checkEntries(t, l, 0, batchBytes(t, markerOf(api.Commit, 0, 0)), batchBytes(t, markerOf(api.Abort, 1, 0)))
		checkEntries(t, l, 200, groupBytes(t, mark(0, 0, true)), groupBytes(t, mark(1, 0, false)))
		checkMarked(t, l, 3, all...)
	}
}

// TestFinishWithPlacesThatAreOthers: each of them ends it once.
func TestFinishWithPlacesThatAreOthers(t *testing.T) {
	l, a := decided(t, 0, 1, 200)
	for _, key := range []int{0, 1, 200} {
		mustOpen(t, l, key)
	}
	checkFinish(t, a, 6, api.ErrSeal)
	checkHolds(t, a, 1, 100, 200)
	checkFinish(t, a, 5, api.ErrSeal)
	checkHolds(t, a, 0, 100, 200)
	checkFinish(t, a, 4, api.ErrSeal)
	checkHolds(t, a, 0, 1, 100)
	mustOpen(t, l, 100)
	checkFinish(t, a, 0, api.ErrOwner)
	checkFinish(t, a, 0, api.OK)
	checkHolds(t, a, 0, 1, 100, 200)
}

// TestFinishWithAPlaceThatCantBeHeld: it stays the first one, and ends it each time.
func TestFinishWithAPlaceThatCantBeHeld(t *testing.T) {
	for i, key := range []int{0, 1, 200} {
		l, a := decided(t, 0, 1, 200)
		mustLay(t, l, key, []byte("no entry"))
		checkFinish(t, a, 6-i, api.ErrSeal)
		for range 2 {
			checkFinish(t, a, 6-i, api.ErrForm)
		}
		if a.Holds(key) || !a.Holds(100) {
			t.Errorf("it holds %d: %v, the book: %v", key, a.Holds(key), a.Holds(100))
		}
	}
}

// TestMarkersThatAreThere: nothing is written a second time, as far as that is sure.
func TestMarkersThatAreThere(t *testing.T) {
	l, a := decided(t, 0, 200)
	mustLay(t, l, 0, batchBytes(t, markerOf(api.Commit, 0, 0)))
	mustLay(t, l, 200, groupBytes(t, mark(0, 0, true)))
	b := mustBroker(t, l, 4, 2, 10)
	checkFinish(t, b, 0, api.OK)
	checkEntries(t, l, 0, batchBytes(t, markerOf(api.Commit, 0, 0)), batchBytes(t, markerOf(api.Abort, 1, 0)))
	checkEntries(t, l, 200, groupBytes(t, mark(0, 0, true)), groupBytes(t, mark(1, 0, false)))
	checkFinish(t, a, 0, api.ErrOwner)
}

// TestFinishIsNotSureOfAMarker: that one was written counts only of a log that is still the broker's.
func TestFinishIsNotSureOfAMarker(t *testing.T) {
	l, a := decided(t, 0)
	luck(l.Loglets.Net, comes, 3, lost, 3)
	checkFinish(t, a, 2, api.ErrLost)
	checkHolds(t, a, 0, 1, 200)
	mustOpen(t, l, 0)
	checkFinish(t, a, 2, api.ErrOwner)
	checkHolds(t, a, 1, 100, 200)
	checkFinish(t, a, 0, api.OK)
	checkEntries(t, l, 0, batchBytes(t, markerOf(api.Commit, 0, 0)), batchBytes(t, markerOf(api.Abort, 1, 0)))
}
