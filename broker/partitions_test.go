package broker_test

import (
	"strings"
	"testing"

	"gazette/api"
	"gazette/broker"
	"gazette/ledger"
)

// P1703

func TestProduce(t *testing.T) {
	l, a, b := three(t)
	checkProduce(t, a, 0, nobodys("a", "b"), 0, api.OK)
	checkProduce(t, a, 0, of(5, 0, 0, "c"), 2, api.OK)
	checkProduce(t, a, 1, of(5, 0, 0, "d"), 0, api.OK)
	checkProduce(t, a, 0, of(5, 0, 0, "c"), 2, api.OK)
	checkProduce(t, b, 0, of(5, 0, 0, "c"), 2, api.OK)
	checkProduce(t, b, 0, of(5, 0, 2, "e"), 0, api.ErrOrder)
	checkProduce(t, b, 0, of(5, 0, 0, "e", "f"), 0, api.ErrDup)
	checkProduce(t, b, 0, of(5, 1, 0, "e"), 3, api.OK)
	checkProduce(t, b, 0, of(5, 0, 1, "f"), 0, api.ErrFence)
	checkFetch(t, b, 0, 0, false, 4, "0:a", "1:b", "2:c", "3:e")
	checkHolds(t, b, 0)
	checkEntries(t, l, 0, batchBytes(t, nobodys("a", "b")), batchBytes(t, of(5, 0, 0, "c")), batchBytes(t, of(5, 1, 0, "e")))
	checkEntries(t, l, 1, batchBytes(t, of(5, 0, 0, "d")))
	checkEntries(t, l, 100)
}

// refusedBatches are such that nobody is asked of, each with its error.
func refusedBatches() map[api.Errno][]api.Batch {
	long := nobodys("a")
	long.Records[0].Key = strings.Repeat("k", 1001)
	great := nobodys(strings.Split(strings.Repeat(strings.Repeat("v", 1500)+" ", 32), " ")[:32]...)
	dead := nobodys("a")
	dead.Records[0].Dead = true
	nobodysTxn := nobodys("a")
	nobodysTxn.InTxn = true
	return map[api.Errno][]api.Batch{
		api.ErrArg: {
			{}, {Kind: 4, Producer: -1, Records: nobodys("a").Records}, {Kind: -1}, {Kind: 7, Producer: -2},
			{Kind: api.Commit}, {Kind: api.Abort, Producer: 5, Epoch: 1}, {Kind: api.Commit, Producer: -1}, {Kind: api.Commit, InTxn: true},
			of(-2, 0, 0, "a"), of(1<<48, 0, 0, "a"), of(5, -1, 0, "a"), of(5, 1<<31, 0, "a"), of(-1, 1, 0, "a"), of(-1, 0, 1, "a"), nobodysTxn,
			in(-2, 0, 0, "a"),
		},
		api.ErrSize: {nobodys(), nobodys(make([]string, 65)...), long, great, dead, in(0, 0, 0), nobodys(strings.Repeat("v", 4001))},
		api.ErrOver: {of(5, 0, -1, "a"), of(5, 0, 1<<31, "a"), of(5, 0, 1<<31-1, "a", "b"), in(0, 0, -1, "a")},
	}
}

func TestBatchesThatAreRefused(t *testing.T) {
	l, a, b := three(t)
	checkProduce(t, a, 0, nobodys("z"), 0, api.OK)
	mustOpen(t, l, 0) // who asks would learn it
	for want, list := range refusedBatches() {
		for _, x := range list {
			for _, who := range []*broker.Broker{a, b} {
				checkSilent(t, l, func() { checkProduce(t, who, 0, x, 0, want) })
				// That there is no such partition comes first.
				checkSilent(t, l, func() { checkProduce(t, who, 2, x, 0, api.ErrArg) })
			}
		}
	}
	checkHolds(t, a, 0)
	checkHolds(t, b)
}

func TestPartitions(t *testing.T) {
	l := mustLink(t, 3, 3, 200)
	for _, parts := range []int{1, 3, api.MaxParts} {
		b := mustBroker(t, l, 0, parts, 1)
		for _, part := range []int{-1 << 63, -1, parts, parts + 1, 100, 200, 1 << 62} {
			checkSilent(t, l, func() {
				checkProduce(t, b, part, nobodys("a"), 0, api.ErrArg)
				checkProduce(t, b, part, in(0, 0, 0, "a"), 0, api.ErrArg)
				checkNoFetch(t, b, part, 0, 9, api.ErrArg)
				checkEnds(t, b, part, 0, 0, 0, api.ErrArg)
				checkChange(t, b, part, ledger.Retain, 0, api.ErrArg)
				checkChange(t, b, part, ledger.Compact, 0, api.ErrArg)
			})
		}
		checkHolds(t, b)
	}
	b := mustBroker(t, l, 0, api.MaxParts, 1)
	for _, part := range []int{0, 1, api.MaxParts - 1} {
		checkProduce(t, b, part, nobodys("a"), 0, api.OK)
		checkFetch(t, b, part, 0, true, 1, "0:a")
		checkEnds(t, b, part, 0, 1, 1, api.OK)
		checkChange(t, b, part, ledger.Retain, 1, api.OK)
		checkEnds(t, b, part, 1, 1, 1, api.OK)
	}
	checkHolds(t, b, 0, 1, api.MaxParts-1)
}

// TestProduceInTransactions: the book is asked, each time, what the producer may.
func TestProduceInTransactions(t *testing.T) {
	l, a, b := three(t)
	checkProduce(t, a, 0, in(0, 0, 0, "a"), 0, api.ErrNone)
	checkHolds(t, a, 100)
	checkTxn(t, a, start("x", 10, 0), 0, 0, api.OK)
	checkTxn(t, a, start("x", 10, 0), 0, 1, api.OK)
	checkProduce(t, a, 0, in(0, 1, 0, "a"), 0, api.ErrState) // it is Empty
	checkProduce(t, a, 0, in(0, 0, 0, "a"), 0, api.ErrFence)
	checkProduce(t, a, 0, in(0, 2, 0, "a"), 0, api.ErrFence)
	checkProduce(t, a, 0, in(1, 1, 0, "a"), 0, api.ErrNone)
	checkProduce(t, a, 0, in(1<<48-1, 1, 0, "a"), 0, api.ErrNone)
	checkHolds(t, a, 100)
	checkTxn(t, a, add(0, 1, 0, 0), 0, 0, api.OK)
	checkProduce(t, a, 1, in(0, 1, 0, "a"), 0, api.ErrState) // it is none of the places
	checkProduce(t, a, 1, in(0, 0, 0, "a"), 0, api.ErrFence)
	checkProduce(t, a, 0, in(0, 1, 0, "a"), 0, api.OK)
	checkProduce(t, a, 0, in(0, 1, 0, "a"), 0, api.OK)
	checkProduce(t, a, 0, in(0, 1, 5, "a"), 0, api.ErrOrder)
	checkProduce(t, a, 0, of(0, 1, 1, "b"), 0, api.ErrState) // the ledger's: its transaction is open
	checkHolds(t, a, 100, 0)
	checkProduce(t, b, 0, in(0, 1, 1, "b"), 1, api.OK)
	checkHolds(t, b, 100, 0)
	// Who was asked last has the book: the other one is not sure.
	checkProduce(t, a, 0, in(0, 1, 2, "c"), 0, api.ErrOwner)
	checkHolds(t, a, 0)
	checkProduce(t, a, 0, in(0, 1, 2, "c"), 0, api.ErrOwner) // what it knows of the partition says ErrOrder, and is not sure
	checkHolds(t, a, 100)
	checkProduce(t, a, 0, in(0, 1, 2, "c"), 2, api.OK)
	checkEntries(t, l, 0, batchBytes(t, in(0, 1, 0, "a")), batchBytes(t, in(0, 1, 1, "b")), batchBytes(t, in(0, 1, 2, "c")))
}

// TestProduceInTransactionsThatAreDecided: where no marker is written yet, nothing comes any more.
func TestProduceInTransactionsThatAreDecided(t *testing.T) {
	for _, yes := range []bool{true, false} {
		l, a, b := three(t)
		checkTxn(t, a, start("x", 10, 0), 0, 0, api.OK)
		checkTxn(t, a, add(0, 0, 0, 0), 0, 0, api.OK)
		checkProduce(t, a, 0, in(0, 0, 0, "a"), 0, api.OK)
		luck(l.Loglets.Net, comes, 3, lost, 3) // the End comes, the marker does not
		checkTxn(t, a, end(0, 0, yes), 0, 0, api.OK)
		checkProduce(t, a, 0, in(0, 0, 1, "b"), 0, api.ErrState)
		checkProduce(t, b, 0, in(0, 0, 1, "b"), 0, api.ErrState)
		checkProduce(t, b, 0, in(0, 1, 0, "b"), 0, api.ErrFence)
		checkFinish(t, b, 0, api.OK)
		checkProduce(t, b, 0, in(0, 0, 1, "b"), 0, api.ErrState)
		checkTxn(t, b, add(0, 0, 0, 0), 0, 0, api.OK)
		checkProduce(t, b, 0, in(0, 0, 1, "b"), 2, api.OK)
	}
}

// TestTheBookIsHeldFirst: where it can't be held the partition is not asked of.
func TestTheBookIsHeldFirst(t *testing.T) {
	l, a, _ := three(t)
	mustLay(t, l, 100, []byte("no entry"))
	mustLay(t, l, 0, []byte("no entry"), []byte("nor this"))
	checkProduce(t, a, 0, in(0, 0, 0, "a"), 0, api.ErrForm)
	if g := mustOpen(t, l, 0); g.Next() != 2 {
		t.Errorf("Next is %d", g.Next())
	}
	l, a, _ = three(t)
	checkTxn(t, a, start("x", 10, 0), 0, 0, api.OK)
	n, m := sent(l, func() { checkProduce(t, a, 0, in(0, 0, 0, "a"), 0, api.ErrState) })
	if n != 0 || m != 3 {
		t.Errorf("%d messages to nodes, %d to acceptors", n, m)
	}
	checkHolds(t, a, 100)
}

// P1704

func TestFetch(t *testing.T) {
	_, a, b := three(t)
	checkFetch(t, a, 0, 0, false, 0)
	checkTxn(t, a, start("x", 10, 0), 0, 0, api.OK)
	checkTxn(t, a, add(0, 0, 0, 0), 0, 0, api.OK)
	checkProduce(t, a, 0, nobodys("a", "b"), 0, api.OK)
	checkProduce(t, a, 0, in(0, 0, 0, "c"), 2, api.OK)
	checkProduce(t, a, 0, nobodys("d"), 3, api.OK)
	for _, who := range []*broker.Broker{a, b} {
		checkFetch(t, who, 0, 0, false, 4, "0:a", "1:b", "2:c", "3:d")
		checkFetch(t, who, 0, 0, true, 2, "0:a", "1:b")
		checkFetch(t, who, 0, 3, true, 3)
		checkFetch(t, who, 0, 4, false, 4)
		checkEnds(t, who, 0, 0, 2, 4, api.OK)
		checkNoFetch(t, who, 0, 5, 9, api.ErrRange)
		checkNoFetch(t, who, 0, -1, 9, api.ErrArg)
		checkNoFetch(t, who, 0, 0, -1, api.ErrArg)
		if rows, next, e := who.Fetch(0, 1, 2, false); len(rows) != 2 || rows[1].Offset != 2 || rows[1].Producer != 0 || !rows[1].InTxn || rows[1].Record != (api.Record{Key: "kc", Value: "c"}) || next != 3 || e != api.OK {
			t.Errorf("Fetch(0, 1, 2, false): %+v, %d, %d", rows, next, e)
		}
		if rows, next, e := who.Fetch(0, 1, 0, false); len(rows) != 0 || next != 1 || e != api.OK {
			t.Errorf("Fetch(0, 1, 0, false): %+v, %d, %d", rows, next, e)
		}
	}
}

func TestChange(t *testing.T) {
	l, a, b := three(t)
	x := nobodys("a", "b", "c")
	x.Records[0].Key, x.Records[1].Key = "k", "k"
	checkProduce(t, a, 0, x, 0, api.OK)
	checkChange(t, a, 0, ledger.Compact, 1, api.OK) // nothing falls away
	checkChange(t, a, 0, ledger.Compact, 2, api.OK)
	checkFetch(t, a, 0, 0, false, 3, "1:b", "2:c")
	checkChange(t, a, 0, ledger.Compact, 2, api.OK)
	checkChange(t, a, 0, ledger.Compact, 4, api.ErrRange)
	checkChange(t, a, 0, ledger.Retain, 4, api.ErrRange)
	checkChange(t, a, 0, ledger.Retain, 1<<48, api.ErrRange)
	checkChange(t, a, 0, ledger.Retain, 1<<48+1, api.ErrArg)
	checkChange(t, a, 0, ledger.Retain, -1, api.ErrArg)
	checkChange(t, a, 0, ledger.Retain, 0, api.OK)
	checkChange(t, b, 0, ledger.Retain, 2, api.OK)
	checkChange(t, b, 0, ledger.Retain, 1, api.OK)
	checkFetch(t, b, 0, 2, false, 3, "2:c")
	checkNoFetch(t, b, 0, 1, 9, api.ErrTrim)
	checkEnds(t, b, 0, 2, 3, 3, api.OK)
	checkEntries(t, l, 0, batchBytes(t, x), entryBytes(t, ledger.Entry{Kind: ledger.Compact, N: 2}), entryBytes(t, ledger.Entry{Kind: ledger.Retain, N: 2}))
	checkFetch(t, a, 1, 0, false, 0)
}

// TestChangeOfNoKind: the partition is held ahead of it, as the chapter's order says.
func TestChangeOfNoKind(t *testing.T) {
	for _, kind := range []int{-1 << 63, -1, 0, ledger.Batches, 4, 17, 1 << 62} {
		for _, n := range []int{-1, 0, 1, 9} {
			l, a, _ := three(t)
			mustLay(t, l, 0, batchBytes(t, nobodys("a")))
			checkChange(t, a, 0, kind, n, api.ErrArg)
			checkHolds(t, a, 0)
			checkSilent(t, l, func() { checkChange(t, a, 0, kind, n, api.ErrArg) })
			checkEntries(t, l, 0, batchBytes(t, nobodys("a")))
			checkSilent(t, l, func() { checkChange(t, a, 0, kind, n, api.ErrArg) }) // it is not asked whether it is sure
			silenced(l.Register.Net, func() { checkChange(t, a, 1, kind, n, api.ErrLost) })
		}
	}
}
