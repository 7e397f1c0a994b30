package ledger_test

import (
	"fmt"
	"math"
	"slices"
	"testing"

	"gazette/api"
	"gazette/ledger"
)

type txn = ledger.Txn
type gone = ledger.Gone

func TestExamples(t *testing.T) {
	l := mustNew(t)
	mustTake(t, l, in(1, 0, "a", "b"))
	checkEnds(t, l, 0, 0, 2)
	checkFetch(t, l, 0, all, true, 0)
	mustTake(t, l, commit(1))
	checkEnds(t, l, 0, 3, 3)
	checkFetch(t, l, 0, all, true, 3, 0, 1)
}

// P1301

func TestLedgersThatNewDidNotMake(t *testing.T) {
	for name, l := range map[string]*ledger.Ledger{"nil": nil, "zero": {}, "new": new(ledger.Ledger)} {
		list := append(right(), ledger.Entry{}, out(1, 5, "k"), out(1, 0))
		for _, x := range list {
			if n, done, e := l.Decide(x); n != 0 || done || e != api.ErrArg {
				t.Errorf("%s: Decide(%s): %d, %v, %d", name, brief(x), n, done, e)
			}
			if n, e := l.Apply(x); n != 0 || e != api.ErrArg {
				t.Errorf("%s: Apply(%s): %d, %d", name, brief(x), n, e)
			}
		}
		for _, from := range []int{math.MinInt, -1, 0, 1, math.MaxInt} {
			for _, most := range []int{math.MinInt, -1, 0, 1, math.MaxInt} {
				checkNoFetch(t, l, from, most, api.ErrArg)
			}
		}
		checkEnds(t, l, 0, 0, 0)
		checkRows(t, l)
		checkOpen(t, l)
		checkAborted(t, l)
	}
}

func TestANewLedger(t *testing.T) {
	l := mustNew(t)
	checkEnds(t, l, 0, 0, 0)
	checkRows(t, l)
	checkOpen(t, l)
	checkAborted(t, l)
	checkFetch(t, l, 0, all, false, 0)
	checkFetch(t, l, 0, 0, true, 0)
	checkNoFetch(t, l, 1, 1, api.ErrRange)
	checkDone(t, l, retain(0), 0)
	checkDone(t, l, compact(0), 0)
	checkRefused(t, l, retain(1), api.ErrRange)
	checkRefused(t, l, compact(1), api.ErrRange)
	checkRefused(t, l, compact(api.MaxNumber), api.ErrRange)
}

func TestLedgersAreApart(t *testing.T) {
	l, other := mustNew(t), mustNew(t)
	empty := stateOf(other)
	for _, x := range []ledger.Entry{in(1, 0, "a"), abort(1), nobodys("a", "a"), compact(4), retain(1)} {
		mustTake(t, l, x)
	}
	checkState(t, other, empty)
}

// P1303, P1304: what may not be

func TestEntriesThatMayNotBe(t *testing.T) {
	empty := mustNew(t)
	grown := made(t, nobodys("a", "a"), in(1, 0, "b"), at(topEpoch, abort(2)), in(3, 0, "c"), abort(3), retain(1))
	for name, x := range wrong() {
		t.Run(name, func(t *testing.T) {
			checkRefused(t, empty, x, api.ErrArg)
			checkRefused(t, grown, x, api.ErrArg)
		})
	}
}

// P1303, P1304: batches

func TestBatchesOfNobody(t *testing.T) {
	l := made(t, nobodys("a"), nobodys("a"), nobodys("b", "!c"))
	want := []ledger.Row{
		{Offset: 0, Producer: -1, Record: api.Record{Key: "a", Value: "a0"}},
		{Offset: 1, Producer: -1, Record: api.Record{Key: "a", Value: "a0"}},
		{Offset: 2, Producer: -1, Record: api.Record{Key: "b", Value: "b0"}},
		{Offset: 3, Producer: -1, Record: api.Record{Key: "c", Dead: true}},
	}
	if !slices.Equal(l.Rows(), want) {
		t.Errorf("Rows: %v, not %v", l.Rows(), want)
	}
	checkEnds(t, l, 0, 4, 4)
	checkFetch(t, l, 0, all, true, 4, 0, 1, 2, 3)
}

func TestRowsTellTheirProducers(t *testing.T) {
	l := made(t, at(5, out(7, 0, "a")), in(topProducer, 0, "b"))
	want := []ledger.Row{
		{Offset: 0, Producer: 7, Record: api.Record{Key: "a", Value: "a0"}},
		{Offset: 1, Producer: topProducer, InTxn: true, Record: api.Record{Key: "b", Value: "b0"}},
	}
	if !slices.Equal(l.Rows(), want) {
		t.Errorf("Rows: %v, not %v", l.Rows(), want)
	}
	checkOpen(t, l, txn{topProducer, 1})
}

func TestTheTablesErrors(t *testing.T) {
	l := made(t, nobodys("a"), at(1, in(1, 0, "a", "b")))
	checkRefused(t, l, at(1, in(1, 1, "a")), api.ErrDup)
	checkRefused(t, l, at(1, in(1, 0, "a")), api.ErrDup)
	checkRefused(t, l, at(1, in(1, 3, "a")), api.ErrOrder)
	checkRefused(t, l, at(1, out(1, 3, "a")), api.ErrOrder) // ErrState would be next
	checkRefused(t, l, in(1, 0, "a"), api.ErrFence)
	checkRefused(t, l, out(1, 0, "a"), api.ErrFence)
	checkRefused(t, l, commit(1), api.ErrFence)
	checkRefused(t, l, abort(1), api.ErrFence)
	checkRefused(t, l, at(2, in(1, 2, "a")), api.ErrOrder)
	checkRefused(t, l, in(2, 1, "a"), api.ErrOrder)
	mustTake(t, l, at(1, in(1, 2, "c")))
	mustTake(t, l, at(1, commit(1)))
	checkRefused(t, l, commit(1), api.ErrFence)
}

func TestDuplicates(t *testing.T) {
	l := made(t, nobodys("a"), out(1, 0, "a", "b"), in(2, 0, "c"), nobodys("d"))
	checkDone(t, l, out(1, 0, "a", "b"), 1)
	checkDone(t, l, in(1, 0, "x", "y"), 1) // by its numbers, whatever else it says
	checkDone(t, l, in(2, 0, "c"), 3)
	checkDone(t, l, out(2, 0, "c"), 3) // ahead of ErrState
	mustTake(t, l, abort(2))
	checkDone(t, l, in(2, 0, "c"), 3)
	checkDone(t, l, in(1, 0, "a", "b"), 1) // it opens nothing
	for i := range api.Window {
		mustTake(t, l, out(1, 2+i, "e"))
	}
	checkRefused(t, l, out(1, 0, "a", "b"), api.ErrDup)
	for i := range api.Window {
		checkDone(t, l, out(1, 2+i, "e"), 6+i)
	}
}

// TestADuplicateWhoseRowIsGone: it is told its offset even where nothing is there any more.
func TestADuplicateWhoseRowIsGone(t *testing.T) {
	l := made(t, out(1, 0, "a"), out(1, 1, "a"), nobodys("b"), compact(2), retain(3))
	checkRows(t, l)
	checkDone(t, l, out(1, 0, "a"), 0)
	checkDone(t, l, out(1, 1, "a"), 1)
}

func TestMarkersOfAProducerThatIsNotKnown(t *testing.T) {
	for _, kind := range []int{api.Commit, api.Abort} {
		for _, epoch := range []int{0, 1, topEpoch} {
			l := made(t, nobodys("a"), out(2, 0, "b"))
			mustTake(t, l, at(epoch, marker(kind, 1)))
			checkEnds(t, l, 0, 3, 3)
			checkRows(t, l, 0, 1)
			checkOpen(t, l)
			checkAborted(t, l)
			for _, again := range []int{api.Commit, api.Abort} { // it is known now
				checkDone(t, l, at(epoch, marker(again, 1)), -1)
			}
			if epoch > 0 {
				checkRefused(t, l, at(epoch-1, marker(kind, 1)), api.ErrFence)
				checkRefused(t, l, at(epoch-1, out(1, 0, "c")), api.ErrFence)
			}
			if epoch < topEpoch {
				mustTake(t, l, at(epoch+1, marker(kind, 1)))
				checkEnds(t, l, 0, 4, 4)
			}
		}
	}
}

func TestMarkersWithoutAnOpenTransaction(t *testing.T) {
	for _, kind := range []int{api.Commit, api.Abort} {
		l := made(t, at(3, out(1, 0, "a")), in(2, 0, "b"))
		checkDone(t, l, at(3, marker(kind, 1)), -1) // the neighbour's one says nothing of it
		checkRefused(t, l, at(2, marker(kind, 1)), api.ErrFence)
		mustTake(t, l, at(4, marker(kind, 1)))
		checkDone(t, l, at(4, marker(kind, 1)), -1)
		checkRefused(t, l, at(3, marker(kind, 1)), api.ErrFence)
		checkEnds(t, l, 0, 1, 3)
		checkRows(t, l, 0, 1)
		checkOpen(t, l, txn{2, 1})
		checkAborted(t, l)
		mustTake(t, l, at(4, out(1, 0, "c"))) // the marker's epoch began anew
		checkRefused(t, l, at(4, out(1, 2, "c")), api.ErrOrder)
	}
}

func TestMarkersOfAnOpenTransaction(t *testing.T) {
	for _, epoch := range []int{3, 4, topEpoch} {
		for _, kind := range []int{api.Commit, api.Abort} {
			l := made(t, nobodys("a"), at(3, in(1, 0, "b")), nobodys("c"), at(3, in(1, 1, "d", "e")))
			checkOpen(t, l, txn{1, 1})
			checkEnds(t, l, 0, 1, 5)
			checkRefused(t, l, at(2, marker(kind, 1)), api.ErrFence)
			mustTake(t, l, at(epoch, marker(kind, 1)))
			checkOpen(t, l)
			checkEnds(t, l, 0, 6, 6)
			checkRows(t, l, 0, 1, 2, 3, 4) // the marker takes an offset, and is no row
			checkFetch(t, l, 0, all, false, 6, 0, 1, 2, 3, 4)
			if kind == api.Commit {
				checkAborted(t, l)
				checkFetch(t, l, 0, all, true, 6, 0, 1, 2, 3, 4)
			} else {
				checkAborted(t, l, gone{1, 1, 5})
				checkFetch(t, l, 0, all, true, 6, 0, 2)
			}
			checkDone(t, l, at(epoch, commit(1)), -1)
			checkDone(t, l, at(epoch, abort(1)), -1)
			if epoch == 3 {
				mustTake(t, l, at(3, out(1, 3, "f"))) // it is in no transaction any more
			} else {
				checkRefused(t, l, at(3, out(1, 3, "f")), api.ErrFence)
			}
		}
	}
}

func TestRecordsBesideAnOpenTransaction(t *testing.T) {
	l := made(t, out(1, 0, "a"), in(1, 1, "b"))
	checkRefused(t, l, out(1, 2, "c"), api.ErrState)
	checkRefused(t, l, at(1, out(1, 0, "c")), api.ErrState) // in a newer epoch, too
	mustTake(t, l, out(2, 0, "c"))                          // another producer's
	mustTake(t, l, nobodys("d"))
	mustTake(t, l, in(1, 2, "e"))
	checkOpen(t, l, txn{1, 1})
	mustTake(t, l, commit(1))
	mustTake(t, l, out(1, 3, "f"))
	checkFetch(t, l, 0, all, true, 7, 0, 1, 2, 3, 4, 6)
}

// TestANewerEpochGoesOnInTheOpenTransaction: there is one of a producer at most.
func TestANewerEpochGoesOnInTheOpenTransaction(t *testing.T) {
	l := made(t, in(1, 0, "a"), nobodys("b"), at(1, in(1, 0, "c")))
	checkOpen(t, l, txn{1, 0})
	checkRefused(t, l, abort(1), api.ErrFence)
	mustTake(t, l, at(1, abort(1)))
	checkAborted(t, l, gone{1, 0, 3})
	checkFetch(t, l, 0, all, true, 4, 1)
}

func TestATransactionBehindAnother(t *testing.T) {
	l := made(t, in(1, 0, "a"), abort(1), in(1, 1, "b"), commit(1), in(1, 2, "c"), abort(1), in(1, 3, "d"))
	checkAborted(t, l, gone{1, 0, 1}, gone{1, 4, 5})
	checkOpen(t, l, txn{1, 6})
	checkEnds(t, l, 0, 6, 7)
	checkFetch(t, l, 0, all, true, 6, 2)
	checkFetch(t, l, 0, all, false, 7, 0, 2, 4, 6)
}

// TestAnAbortTakesOnlyItsProducersTransaction: what others wrote between, and what it wrote ahead and behind, stays.
func TestAnAbortTakesOnlyItsProducersTransaction(t *testing.T) {
	l := made(t, out(1, 0, "a"), in(2, 0, "b"), in(1, 1, "c"), in(2, 1, "d"), nobodys("e"), commit(2), in(1, 2, "f"), abort(1), out(1, 3, "g"), in(1, 4, "h"), commit(1))
	checkAborted(t, l, gone{1, 2, 7})
	checkFetch(t, l, 0, all, true, 11, 0, 1, 3, 4, 8, 9)
}

// several has three transactions that are open at once, from 1, 2 and 4 on.
func several(t *testing.T) *ledger.Ledger {
	t.Helper()
	l := made(t, nobodys("a"), in(2, 0, "b"), in(1, 0, "c"), in(2, 1, "d"), in(3, 0, "e", "f"))
	checkOpen(t, l, txn{2, 1}, txn{1, 2}, txn{3, 4})
	checkEnds(t, l, 0, 1, 6)
	return l
}

func TestTheLeastTransactionEndsFirst(t *testing.T) {
	l := several(t)
	mustTake(t, l, abort(2))
	checkOpen(t, l, txn{1, 2}, txn{3, 4})
	checkEnds(t, l, 0, 2, 7)
	checkFetch(t, l, 0, all, true, 2, 0)
	mustTake(t, l, abort(1))
	checkOpen(t, l, txn{3, 4})
	checkEnds(t, l, 0, 4, 8)
	checkFetch(t, l, 0, all, true, 4, 0)
	mustTake(t, l, commit(3))
	checkOpen(t, l)
	checkEnds(t, l, 0, 9, 9)
	checkAborted(t, l, gone{2, 1, 6}, gone{1, 2, 7})
	checkFetch(t, l, 0, all, true, 9, 0, 4, 5)
}

func TestTheLeastTransactionEndsLast(t *testing.T) {
	l := several(t)
	mustTake(t, l, abort(3))
	checkOpen(t, l, txn{2, 1}, txn{1, 2})
	checkEnds(t, l, 0, 1, 7)
	mustTake(t, l, abort(1))
	checkOpen(t, l, txn{2, 1})
	checkEnds(t, l, 0, 1, 8)
	checkFetch(t, l, 0, all, true, 1, 0)
	mustTake(t, l, nobodys("g"))
	checkEnds(t, l, 0, 1, 9)
	mustTake(t, l, commit(2))
	checkOpen(t, l)
	checkEnds(t, l, 0, 10, 10)
	checkAborted(t, l, gone{3, 4, 6}, gone{1, 2, 7}) // by their markers, not by First
	checkFetch(t, l, 0, all, true, 10, 0, 1, 3, 8)
}

// Offsets that are used up

func TestTheLastOffsets(t *testing.T) {
	for room := range api.MaxBatch + 1 {
		l := mustNew(t)
		end := api.MaxNumber - room
		ledger.SetEnd(l, end)
		for n := 1; n <= api.MaxBatch; n++ {
			x := nobodys(make([]string, n)...)
			offset, done, e := l.Decide(x)
			if n <= room && (offset != end || done || e != api.OK) || n > room && (offset != 0 || done || e != api.ErrOver) {
				t.Errorf("room for %d: Decide(%s): %d, %v, %d", room, brief(x), offset, done, e)
			}
		}
	}
}

func TestAnEndThatIsMaxNumber(t *testing.T) {
	l := mustNew(t)
	ledger.SetEnd(l, api.MaxNumber-3)
	checkRefused(t, l, out(1, 0, "a", "b", "c", "d"), api.ErrOver)
	mustTake(t, l, out(1, 0, "a", "b"))
	checkRefused(t, l, out(1, 2, "c", "d"), api.ErrOver)
	checkRefused(t, l, nobodys("c", "d"), api.ErrOver)
	mustTake(t, l, in(1, 2, "c"))
	checkEnds(t, l, 0, api.MaxNumber-1, api.MaxNumber)
	checkRefused(t, l, in(1, 3, "d"), api.ErrOver)
	checkRefused(t, l, nobodys("d"), api.ErrOver)
	checkRefused(t, l, commit(1), api.ErrOver)
	checkRefused(t, l, abort(2), api.ErrOver)
	checkRefused(t, l, out(1, 3, "d"), api.ErrState) // ahead of ErrOver
	checkRefused(t, l, in(1, 4, "d"), api.ErrOrder)
	checkDone(t, l, in(1, 2, "c"), api.MaxNumber-1)
	checkDone(t, l, out(1, 0, "a", "b"), api.MaxNumber-3)
	checkFetch(t, l, 0, all, false, api.MaxNumber, api.MaxNumber-3, api.MaxNumber-2, api.MaxNumber-1)
	checkFetch(t, l, 0, 3, false, api.MaxNumber, api.MaxNumber-3, api.MaxNumber-2, api.MaxNumber-1)
	checkFetch(t, l, api.MaxNumber, all, false, api.MaxNumber)
	checkNoFetch(t, l, api.MaxNumber+1, 1, api.ErrRange)
	checkRefused(t, l, retain(api.MaxNumber), api.ErrRange)
	mustTake(t, l, retain(api.MaxNumber-1))
	checkRows(t, l, api.MaxNumber-1)
}

func TestAMarkerAtTheLastOffset(t *testing.T) {
	l := mustNew(t)
	ledger.SetEnd(l, api.MaxNumber-3)
	mustTake(t, l, in(1, 0, "a", "b"))
	mustTake(t, l, abort(1))
	checkEnds(t, l, 0, api.MaxNumber, api.MaxNumber)
	checkAborted(t, l, gone{1, api.MaxNumber - 3, api.MaxNumber - 1})
	checkDone(t, l, abort(1), -1) // ahead of ErrOver
	checkRefused(t, l, at(1, abort(1)), api.ErrOver)
	checkRefused(t, l, abort(2), api.ErrOver)
	mustTake(t, l, compact(api.MaxNumber))
	checkRows(t, l)
	mustTake(t, l, retain(api.MaxNumber))
	checkEnds(t, l, api.MaxNumber, api.MaxNumber, api.MaxNumber)
	checkAborted(t, l)
	checkDone(t, l, retain(api.MaxNumber), 0)
	checkFetch(t, l, api.MaxNumber, 1, true, api.MaxNumber)
	checkNoFetch(t, l, api.MaxNumber-1, 1, api.ErrTrim)
}

// P1303, P1304: Retain

func TestRetain(t *testing.T) {
	l := made(t, nobodys("a", "b"), out(1, 0, "c"), nobodys("d"))
	mustTake(t, l, retain(1)) // within a batch
	checkEnds(t, l, 1, 4, 4)
	checkRows(t, l, 1, 2, 3)
	for _, n := range []int{0, 1} {
		checkDone(t, l, retain(n), 0)
	}
	checkRefused(t, l, retain(5), api.ErrRange)
	checkRefused(t, l, retain(api.MaxNumber), api.ErrRange)
	mustTake(t, l, retain(4)) // all there is
	checkEnds(t, l, 4, 4, 4)
	checkRows(t, l)
	checkFetch(t, l, 4, all, true, 4)
	mustTake(t, l, nobodys("e"))
	checkRows(t, l, 4)
	checkDone(t, l, out(1, 0, "c"), 2)
	mustTake(t, l, out(1, 1, "f"))
}

func TestRetainUpToStable(t *testing.T) {
	l := made(t, nobodys("a", "b"), in(1, 0, "c"), nobodys("d"))
	checkRefused(t, l, retain(3), api.ErrRange)
	checkRefused(t, l, retain(4), api.ErrRange)
	mustTake(t, l, retain(2))
	checkEnds(t, l, 2, 2, 4)
	checkRows(t, l, 2, 3)
	checkOpen(t, l, txn{1, 2})
	checkDone(t, l, retain(2), 0)
	mustTake(t, l, commit(1))
	mustTake(t, l, retain(3))
	checkRows(t, l, 3)
}

// TestRetainWhereNoRowIs: the start goes on though nothing falls away.
func TestRetainWhereNoRowIs(t *testing.T) {
	l := made(t, commit(1), commit(2), nobodys("a"))
	mustTake(t, l, retain(1))
	mustTake(t, l, retain(2))
	checkEnds(t, l, 2, 3, 3)
	checkRows(t, l, 2)
}

func TestRetainAndAbortedTransactions(t *testing.T) {
	build := func() *ledger.Ledger {
		return made(t, in(1, 0, "a"), nobodys("b"), in(2, 0, "c"), abort(1), nobodys("d"), abort(2), nobodys("e"))
	}
	one, two := gone{1, 0, 3}, gone{2, 2, 5}
	for n, want := range [][]gone{{one, two}, {one, two}, {one, two}, {one, two}, {two}, {two}, {}, {}} {
		l := build()
		if n > 0 {
			mustTake(t, l, retain(n))
		}
		checkAborted(t, l, want...) // Last below the start, at it, above it
		var rows []int
		for _, o := range []int{1, 4, 6} {
			if o >= n {
				rows = append(rows, o)
			}
		}
		checkFetch(t, l, n, all, true, 7, rows...)
	}
}

// P1303, P1304: Compact

func TestCompactWhereNothingFallsAway(t *testing.T) {
	l := made(t, nobodys("a", "b", "!c"), in(1, 0, "d"), commit(1), nobodys("a"))
	for n := range 6 {
		checkDone(t, l, compact(n), 0)
	}
	checkRefused(t, l, compact(7), api.ErrRange)
	mustTake(t, l, compact(6)) // a is there twice below it
	checkRows(t, l, 1, 2, 3, 5)
	for n := range 7 {
		checkDone(t, l, compact(n), 0)
	}
	checkEnds(t, l, 0, 6, 6)
}

func TestCompactUpToStable(t *testing.T) {
	l := made(t, nobodys("a", "a"), in(1, 0, "a"), nobodys("a"))
	checkRefused(t, l, compact(3), api.ErrRange)
	checkRefused(t, l, compact(4), api.ErrRange)
	mustTake(t, l, compact(2))
	checkRows(t, l, 1, 2, 3)
	checkOpen(t, l, txn{1, 2})
	mustTake(t, l, abort(1))
	checkDone(t, l, compact(2), 0)
	mustTake(t, l, compact(3)) // of the aborted one
	checkRows(t, l, 1, 3)
	mustTake(t, l, compact(4))
	checkRows(t, l, 3)
	checkAborted(t, l, gone{1, 2, 4}) // it is told as long as it is not given up
}

func TestCompactOfKeysThatComeAgain(t *testing.T) {
	l := made(t, nobodys("a", "b", "a", "", "a"), in(1, 0, "b", "c", "b"), commit(1), in(1, 3, "c"), commit(1), nobodys(""))
	mustTake(t, l, compact(12))
	checkRows(t, l, 4, 7, 9, 11)
	checkFetch(t, l, 0, all, true, 12, 4, 7, 9, 11)
}

func TestCompactOfDeadRows(t *testing.T) {
	l := made(t, nobodys("a", "b"), nobodys("!a", "c", "!c"), nobodys("b", "!d", "d"))
	mustTake(t, l, compact(8))
	checkRows(t, l, 2, 4, 5, 7) // a dead row is one, too: it stays
}

// TestCompactOfAbortedTransactions: their rows fall away, and take nothing else with them.
func TestCompactOfAbortedTransactions(t *testing.T) {
	l := made(t, nobodys("a", "b"), in(1, 0, "a", "c"), in(2, 0, "b"), abort(1), commit(2), in(1, 2, "d", "d"), abort(1), in(1, 4, "d"), commit(1))
	mustTake(t, l, compact(12))
	checkRows(t, l, 0, 4, 10)
	checkAborted(t, l, gone{1, 2, 5}, gone{1, 7, 9})
	checkFetch(t, l, 0, all, true, 12, 0, 4, 10)
}

// TestCompactWithinATransaction: only rows below N fall away, and only for those below N.
func TestCompactWithinATransaction(t *testing.T) {
	rows := [][]int{{0, 1, 2, 3, 4, 6}, {0, 1, 2, 3, 4, 6}, {0, 2, 3, 4, 6}, {0, 3, 4, 6}, {0, 4, 6}, {4, 6}, {4, 6}, {6}}
	for n, want := range rows {
		l := made(t, nobodys("a"), in(1, 0, "a", "b", "a"), nobodys("a"), abort(1), nobodys("a"))
		if l.Stable() != 7 {
			t.Fatal(l.Stable())
		}
		if n < 2 {
			checkDone(t, l, compact(n), 0)
		} else {
			mustTake(t, l, compact(n))
		}
		checkRows(t, l, want...)
	}
}

func TestCompactBehindRetain(t *testing.T) {
	l := made(t, nobodys("a", "b", "a", "b"), in(1, 0, "a"), abort(1), retain(2))
	checkDone(t, l, compact(4), 0)
	mustTake(t, l, compact(6))
	checkRows(t, l, 2, 3)
	mustTake(t, l, nobodys("a"))
	mustTake(t, l, compact(7))
	checkRows(t, l, 3, 6)
	checkEnds(t, l, 2, 7, 7)
}

// P1306

func TestFetchRefuses(t *testing.T) {
	l := made(t, nobodys("a", "b", "c"), retain(1))
	for _, from := range []int{math.MinInt, -1} {
		for _, most := range []int{math.MinInt, -1, 0, 1, math.MaxInt} {
			checkNoFetch(t, l, from, most, api.ErrArg)
		}
	}
	for _, from := range []int{0, 1, 3, 4, math.MaxInt} {
		checkNoFetch(t, l, from, -1, api.ErrArg) // ahead of the others
		checkNoFetch(t, l, from, math.MinInt, api.ErrArg)
	}
	for _, most := range []int{0, 1, math.MaxInt} {
		checkNoFetch(t, l, 0, most, api.ErrTrim)
		checkNoFetch(t, l, 4, most, api.ErrRange)
		checkNoFetch(t, l, math.MaxInt, most, api.ErrRange)
		checkFetch(t, l, 3, most, false, 3)
		checkFetch(t, l, 3, most, true, 3)
	}
}

func TestFetchAtMost(t *testing.T) {
	l := made(t, nobodys("a", "b"), commit(1), nobodys("c"), commit(2))
	for _, committed := range []bool{false, true} {
		checkFetch(t, l, 0, 0, committed, 0)
		checkFetch(t, l, 0, 1, committed, 1, 0)
		checkFetch(t, l, 0, 2, committed, 2, 0, 1)
		checkFetch(t, l, 0, 3, committed, 4, 0, 1, 3) // as many as there are
		checkFetch(t, l, 0, 4, committed, 5, 0, 1, 3)
		checkFetch(t, l, 0, all, committed, 5, 0, 1, 3)
		checkFetch(t, l, 2, 0, committed, 2)
		checkFetch(t, l, 2, 1, committed, 4, 3)
		checkFetch(t, l, 2, 2, committed, 5, 3)
		checkFetch(t, l, 4, 1, committed, 5)
		checkFetch(t, l, 5, 1, committed, 5)
		checkFetch(t, l, 5, 0, committed, 5)
	}
}

func TestFetchBesideTransactions(t *testing.T) {
	l := made(t, nobodys("a"), in(1, 0, "b"), nobodys("c"), abort(1), in(2, 0, "d"), nobodys("e"), in(3, 0, "f"), commit(3), nobodys("g"))
	checkEnds(t, l, 0, 4, 9)
	checkFetch(t, l, 0, all, true, 4, 0, 2)
	checkFetch(t, l, 0, 2, true, 3, 0, 2)
	checkFetch(t, l, 0, 3, true, 4, 0, 2)
	checkFetch(t, l, 1, 1, true, 3, 2)
	checkFetch(t, l, 3, 1, true, 4)
	for from := 4; from <= 9; from++ { // at Stable and above it
		for _, most := range []int{0, 1, all} {
			checkFetch(t, l, from, most, true, from)
		}
	}
	checkFetch(t, l, 0, all, false, 9, 0, 1, 2, 4, 5, 6, 8)
	checkFetch(t, l, 4, 2, false, 6, 4, 5)
	checkFetch(t, l, 9, 2, false, 9)
	mustTake(t, l, commit(2))
	checkFetch(t, l, 0, all, true, 10, 0, 2, 4, 5, 6, 8)
	checkFetch(t, l, 3, 2, true, 6, 4, 5)
}

func TestFetchBehindCompact(t *testing.T) {
	l := made(t, nobodys("a", "b", "a", "c", "b", "b"), compact(6))
	for _, committed := range []bool{false, true} {
		checkFetch(t, l, 0, 1, committed, 3, 2)
		checkFetch(t, l, 0, 2, committed, 4, 2, 3)
		checkFetch(t, l, 4, 1, committed, 6, 5)
		checkFetch(t, l, 4, 2, committed, 6, 5)
	}
}

// TestFetchGoesOn: whoever goes on from next has all rows, once.
func TestFetchGoesOn(t *testing.T) {
	l := several(t)
	for _, x := range []ledger.Entry{abort(1), nobodys("g", "h"), commit(2), retain(1), in(1, 1, "i"), abort(3)} {
		mustTake(t, l, x)
	}
	for _, committed := range []bool{false, true} {
		whole, last, _ := l.Fetch(1, all, committed)
		for most := 1; most < 9; most++ {
			var rows []ledger.Row
			from := 1
			for {
				more, next, e := l.Fetch(from, most, committed)
				if e != api.OK {
					t.Fatal(e)
				}
				rows = append(rows, more...)
				from = next
				if len(more) < most {
					break
				}
			}
			if !slices.Equal(rows, whole) || from != last {
				t.Errorf("by %d, %v: %v up to %d, not %v up to %d", most, committed, rows, from, whole, last)
			}
		}
	}
}

// What is handed in and answered

func TestWhatIsHandedInIsNotChangedAndNotKept(t *testing.T) {
	room := append(records("a", "!b"), records("x", "y", "z")...)
	x := nobodys()
	x.Batch.Records = room[:2]
	was := slices.Clone(room)
	l := mustNew(t)
	if _, _, e := l.Decide(x); e != api.OK {
		t.Fatal(e)
	}
	mustTake(t, l, x)
	mustTake(t, l, nobodys("c"))
	if !slices.Equal(room, was) {
		t.Errorf("Decide or Apply changed its batch: %v", room)
	}
	before := stateOf(l)
	for i := range room {
		room[i] = api.Record{Key: "other", Value: "other"}
	}
	checkState(t, l, before)
	if rows := l.Rows(); rows[0].Record != was[0] || rows[1].Record != was[1] {
		t.Errorf("Rows: %v", rows)
	}
}

// spoil overwrites all of a list, with the room behind it.
func spoil[T any](list []T, by T) {
	list = list[:cap(list)]
	for i := range list {
		list[i] = by
	}
}

func TestWhatIsAnsweredIsNewMemory(t *testing.T) {
	l := several(t)
	mustTake(t, l, abort(2))
	mustTake(t, l, in(2, 2, "g"))
	before := stateOf(l)
	bad := ledger.Row{Offset: -9, Producer: -9}
	rows, open, aborted := l.Rows(), l.Open(), l.Aborted()
	fetched, _, _ := l.Fetch(0, all, false)
	committed, _, _ := l.Fetch(0, all, true)
	part, _, _ := l.Fetch(1, 2, false)
	for range 2 {
		spoil(l.Rows(), bad)
		spoil(l.Open(), txn{-9, -9})
		spoil(l.Aborted(), gone{-9, -9, -9})
		for _, most := range []int{1, 2, all} {
			for from := range l.End() {
				for _, only := range []bool{false, true} {
					list, _, _ := l.Fetch(from, most, only)
					spoil(list, bad)
				}
			}
		}
		checkState(t, l, before)
	}
	again, _, _ := l.Fetch(0, all, true)
	if !slices.Equal(rows, before.rows) || !slices.Equal(open, before.open) || !slices.Equal(aborted, before.aborted) ||
		!slices.Equal(fetched, before.rows) || !slices.Equal(committed, again) || !slices.Equal(part, before.rows[1:3]) {
		t.Error("two answers share memory")
	}
}

// TestAnAnswerStays: what happens later is not seen in an answer.
func TestAnAnswerStays(t *testing.T) {
	l := several(t)
	mustTake(t, l, abort(2))
	before := stateOf(l)
	rows, open, aborted := l.Rows(), l.Open(), l.Aborted()
	fetched, _, _ := l.Fetch(0, all, false)
	for _, x := range []ledger.Entry{nobodys("a"), abort(3), commit(1), compact(9), retain(8), in(2, 2, "z"), abort(2), retain(11)} {
		mustTake(t, l, x)
	}
	if !slices.Equal(rows, before.rows) || !slices.Equal(open, before.open) || !slices.Equal(aborted, before.aborted) || !slices.Equal(fetched, before.rows) {
		t.Errorf("answers of a while ago: %v, %v, %v, %v", rows, open, aborted, fetched)
	}
}

// TestManyProducers: each has a transaction of its own.
func TestManyProducers(t *testing.T) {
	l := mustNew(t)
	const n = 300
	for i := range n {
		mustTake(t, l, in(i, 0, fmt.Sprint(i)))
	}
	checkEnds(t, l, 0, 0, n)
	for i := range n {
		mustTake(t, l, marker(api.Commit+i%2, i*7%n)) // each once, in no order
	}
	checkOpen(t, l)
	checkEnds(t, l, 0, 2*n, 2*n)
	rows, _, _ := l.Fetch(0, all, true)
	if len(rows) != n/2 || len(l.Aborted()) != n/2 {
		t.Errorf("%d rows, %d aborted", len(rows), len(l.Aborted()))
	}
	mustTake(t, l, compact(2*n))
	if !slices.Equal(l.Rows(), rows) {
		t.Error("Compact left other rows than the committed ones")
	}
}
