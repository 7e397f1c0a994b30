package broker_test

import (
	"strings"
	"testing"

	"gazette/api"
	"gazette/broker"
	"gazette/group"
	"gazette/ledger"
	"gazette/txn"
	"gazette/vlog"
)

// asking is a call that a broker makes of one log, and what it answers.
type asking struct {
	name string
	key  int
	ask  func(*broker.Broker) api.Errno
	want api.Errno // when the log is the broker's
	lost api.Errno // when it is another one's: ErrSeal of what is written, ErrOwner of what is only asked
}

func produceOf(part int, x api.Batch) func(*broker.Broker) api.Errno {
	return func(b *broker.Broker) api.Errno { _, e := b.Produce(part, x); return e }
}

func changeOf(kind, n int) func(*broker.Broker) api.Errno {
	return func(b *broker.Broker) api.Errno { return b.Change(0, kind, n) }
}

func txnOf(x txn.Event) func(*broker.Broker) api.Errno {
	return func(b *broker.Broker) api.Errno { _, _, e := b.Txn(x); return e }
}

func groupOf(x group.Event) func(*broker.Broker) api.Errno {
	return func(b *broker.Broker) api.Errno { _, _, e := b.Group(0, x); return e }
}

// askings are of a broker that is prepared.
func askings() []asking {
	return []asking{
		{"a new batch", 0, produceOf(0, nobodys("n")), api.OK, api.ErrSeal},
		{"a producer's next batch", 0, produceOf(0, of(5, 0, 1, "n")), api.OK, api.ErrSeal},
		{"a batch that is there", 0, produceOf(0, of(5, 0, 0, "b")), api.OK, api.ErrOwner},
		{"a batch out of its order", 0, produceOf(0, of(5, 0, 7, "n")), api.ErrOrder, api.ErrOwner},
		{"a batch in a transaction", 0, produceOf(0, in(0, 0, 0, "n")), api.OK, api.ErrSeal},
		{"a batch in a transaction, and its book", 100, produceOf(0, in(0, 0, 0, "n")), api.OK, api.ErrOwner},
		{"a batch of no producer, and the book", 100, produceOf(0, in(9, 0, 0, "n")), api.ErrNone, api.ErrOwner},
		{"Fetch", 0, func(b *broker.Broker) api.Errno { _, _, e := b.Fetch(0, 0, 9, false); return e }, api.OK, api.ErrOwner},
		{"a committed Fetch", 0, func(b *broker.Broker) api.Errno { _, _, e := b.Fetch(0, 0, 9, true); return e }, api.OK, api.ErrOwner},
		{"Fetch from -1", 0, func(b *broker.Broker) api.Errno { _, _, e := b.Fetch(0, -1, 9, true); return e }, api.ErrArg, api.ErrOwner},
		{"Ends", 0, func(b *broker.Broker) api.Errno { _, _, _, e := b.Ends(0); return e }, api.OK, api.ErrOwner},
		{"Retain", 0, changeOf(ledger.Retain, 1), api.OK, api.ErrSeal},
		{"Retain of nothing", 0, changeOf(ledger.Retain, 0), api.OK, api.ErrOwner},
		{"Compact of nothing", 0, changeOf(ledger.Compact, 2), api.OK, api.ErrOwner},
		{"Retain of too much", 0, changeOf(ledger.Retain, 9), api.ErrRange, api.ErrOwner},
		{"Retain of less than nothing", 0, changeOf(ledger.Retain, -1), api.ErrArg, api.ErrOwner},
		{"Init", 100, txnOf(start("x", 10, 0)), api.OK, api.ErrSeal},
		{"Init of no name", 100, txnOf(start("", 10, 0)), api.ErrArg, api.ErrOwner},
		{"Add", 100, txnOf(add(0, 0, 1, 0)), api.OK, api.ErrSeal},
		{"Add of what is there", 100, txnOf(add(0, 0, 0, 0)), api.OK, api.ErrOwner},
		{"Add with another epoch", 100, txnOf(add(0, 1, 0, 0)), api.ErrFence, api.ErrOwner},
		{"End", 100, txnOf(end(0, 0, true)), api.OK, api.ErrSeal},
		{"End of what is ended", 100, txnOf(end(1, 0, true)), api.OK, api.ErrOwner},
		{"Expire", 100, txnOf(over(50)), api.OK, api.ErrSeal},
		{"Expire of nobody", 100, txnOf(over(0)), api.OK, api.ErrOwner},
		{"Finish", 100, func(b *broker.Broker) api.Errno { _, e := b.Finish(); return e }, api.OK, api.ErrOwner},
		{"Join", 200, groupOf(join("n", 0)), api.OK, api.ErrSeal},
		{"Leave", 200, groupOf(leave("m", 0)), api.OK, api.ErrSeal},
		{"Leave of nobody", 200, groupOf(leave("n", 0)), api.ErrGroup, api.ErrOwner},
		{"Commit", 200, groupOf(commit("m", 1, 0, 5)), api.OK, api.ErrSeal},
		{"Expire of no member", 200, groupOf(silent(0)), api.OK, api.ErrOwner},
		{"Offset", 200, func(b *broker.Broker) api.Errno { _, _, e := b.Offset(0, 0); return e }, api.OK, api.ErrOwner},
	}
}

// prepared is a broker that holds all logs of the askings.
func prepared(t *testing.T) (*vlog.Link, *broker.Broker) {
	t.Helper()
	l, b, _ := three(t)
	checkProduce(t, b, 0, nobodys("a"), 0, api.OK)
	checkProduce(t, b, 0, of(5, 0, 0, "b"), 1, api.OK)
	checkTxn(t, b, start("x", 10, 0), 0, 0, api.OK)
	checkTxn(t, b, start("y", 10, 0), 1, 0, api.OK)
	checkTxn(t, b, add(0, 0, 0, 0), 0, 0, api.OK)
	checkGroup(t, b, 0, join("m", 0), api.OK, 1, 0, 1)
	checkHolds(t, b, 0, 100, 200)
	return l, b
}

func check(t *testing.T, what string, x asking, b *broker.Broker, want api.Errno, holds bool) {
	t.Helper()
	if e := x.ask(b); e != want || b.Holds(x.key) != holds {
		t.Errorf("%s, %s: %d, not %d; it holds %d: %v", x.name, what, e, want, x.key, b.Holds(x.key))
	}
}

// TestALogThatIsAnotherOnes: each call answers that it is not the broker's any more, and the next one holds it again.
func TestALogThatIsAnotherOnes(t *testing.T) {
	for _, x := range askings() {
		l, b := prepared(t)
		check(t, "that is the broker's", x, b, x.want, true)
		l, b = prepared(t)
		mustOpen(t, l, x.key)
		check(t, "that is another one's", x, b, x.lost, false)
		check(t, "the next time", x, b, x.want, true)
	}
}

// TestALogThatIsAnotherBrokers: who holds it now knows all that was told.
func TestALogThatIsAnotherBrokers(t *testing.T) {
	for _, x := range askings() {
		l, b := prepared(t)
		c := mustBroker(t, l, 2, 2, 10)
		check(t, "by another broker", x, c, x.want, true)
		if b.Holds(x.key) != true {
			t.Errorf("%s: who does not call can't know it", x.name)
		}
	}
}

// TestAStepThatFails: whatever the log's error, the broker does not have the log any more.
func TestAStepThatFails(t *testing.T) {
	for _, x := range askings() {
		if x.name == "a batch in a transaction" {
			continue // the book fails ahead of the partition
		}
		l, b := prepared(t)
		silenced(l.Loglets.Net, func() {
			silenced(l.Register.Net, func() { check(t, "that nobody answers", x, b, api.ErrLost, false) })
		})
		silenced(l.Register.Net, func() { check(t, "that can't be opened", x, b, api.ErrLost, false) })
		silenced(l.Loglets.Net, func() { check(t, "that can't be sealed", x, b, api.ErrLost, false) })
		check(t, "when all is well", x, b, x.want, true)
	}
}

// TestWhatIsSentOfAHeldLog: entries go to nodes alone, and who is only asked asks acceptors alone.
func TestWhatIsSentOfAHeldLog(t *testing.T) {
	for _, x := range askings() {
		if strings.Contains(x.name, "transaction") || x.name == "End" || x.name == "Expire" || strings.HasPrefix(x.name, "End of") || x.name == "Expire of nobody" {
			continue // these go on with other logs, or with Finish
		}
		l, b := prepared(t)
		n, a := sent(l, func() { x.ask(b) })
		if x.lost == api.ErrSeal && (n != 3 || a != 0) || x.lost == api.ErrOwner && (n != 0 || a != 3) {
			t.Errorf("%s: %d messages to nodes, %d to acceptors", x.name, n, a)
		}
	}
}

// TestEntriesThatAreNone: the log can't be held.
func TestEntriesThatAreNone(t *testing.T) {
	bad := map[int][][]byte{
		0: {
			{}, []byte("no entry"), txnBytes(t, over(1)), groupBytes(t, silent(1)), batchBytes(t, nobodys("z"))[1:],
			append(batchBytes(t, nobodys("z")), 0),
			batchBytes(t, of(5, 0, 7, "z")),                               // ErrOrder
			batchBytes(t, of(5, 0, 0, "z", "y")),                          // ErrDup
			entryBytes(t, ledger.Entry{Kind: ledger.Retain, N: 9}),        // ErrRange
			entryBytes(t, ledger.Entry{Kind: ledger.Compact, N: 1 << 48}), // ErrRange
		},
		100: {
			{}, []byte("no entry"), groupBytes(t, silent(1)), batchBytes(t, nobodys("z")), txnBytes(t, over(1))[1:],
			txnBytes(t, add(9, 0, 0, 0)), // ErrNone
			txnBytes(t, add(0, 7, 0, 0)), // ErrFence
		},
		200: {
			{}, []byte("no entry"), txnBytes(t, over(1)), batchBytes(t, nobodys("z")), groupBytes(t, silent(1))[1:],
			groupBytes(t, leave("n", 0)),        // ErrGroup
			groupBytes(t, commit("m", 1, 2, 0)), // ErrArg: there are two partitions
		},
	}
	for _, x := range askings() {
		for _, entry := range bad[x.key] {
			l, b := prepared(t)
			mustLay(t, l, x.key, entry)
			check(t, "that is another one's", x, b, x.lost, false)
			for range 2 {
				check(t, "with an entry that is none", x, b, api.ErrForm, false)
			}
		}
	}
}

// TestEntriesThatAreDone are taken, and change nothing.
func TestEntriesThatAreDone(t *testing.T) {
	l, _, _ := three(t)
	x := batchBytes(t, of(5, 0, 0, "a"))
	mustLay(t, l, 0, x, x, entryBytes(t, ledger.Entry{Kind: ledger.Retain}), batchBytes(t, of(5, 0, 1, "b")), x)
	mustLay(t, l, 100, txnBytes(t, start("x", 10, 0)), txnBytes(t, over(50)), txnBytes(t, add(0, 0, 1, 0)), txnBytes(t, add(0, 0, 1, 3)))
	mustLay(t, l, 200, groupBytes(t, silent(7)), groupBytes(t, join("m", 0)), groupBytes(t, silent(7)))
	b := mustBroker(t, l, 4, 2, 10)
	checkFetch(t, b, 0, 0, false, 2, "0:a", "1:b")
	checkTxn(t, b, add(0, 0, 0, 0), 0, 0, api.OK)
	checkProduce(t, b, 1, in(0, 0, 0, "c"), 0, api.OK)
	checkGroup(t, b, 0, join("n", 0), api.OK, 2, 1)
}

// TestWhatIsGivenUpOfALog: entries are applied from where the log begins.
func TestWhatIsGivenUpOfALog(t *testing.T) {
	l, _, _ := three(t)
	mustLay(t, l, 0, batchBytes(t, nobodys("a")), batchBytes(t, nobodys("b", "c")))
	g := mustLay(t, l, 0, batchBytes(t, nobodys("d")))
	if e := g.Trim(2); e != api.OK || g.Trimmed() != 2 || g.Next() != 3 {
		t.Fatalf("Trim: %d, Trimmed %d, Next %d", e, g.Trimmed(), g.Next())
	}
	b := mustBroker(t, l, 4, 2, 10)
	checkFetch(t, b, 0, 0, false, 1, "0:d")
	checkProduce(t, b, 0, nobodys("e"), 1, api.OK)
}

// TestAnEntryThatCantBeRead: the log was opened, but is not held.
func TestAnEntryThatCantBeRead(t *testing.T) {
	l, a, b := three(t)
	checkProduce(t, a, 0, nobodys("a"), 0, api.OK)
	checkProduce(t, a, 0, nobodys("b"), 1, api.OK)
	// A Seal and two places to repair, all of three nodes, and the first entry are answered.
	luck(l.Loglets.Net, comes, 10, lost, 3)
	checkEnds(t, b, 0, 0, 0, 0, api.ErrLost)
	if l.Loglets.Net.Left() != 0 {
		t.Errorf("%d messages were not sent", l.Loglets.Net.Left())
	}
	checkHolds(t, b)
	checkProduce(t, a, 0, nobodys("c"), 0, api.ErrSeal) // it was opened nevertheless
	checkEnds(t, b, 0, 0, 2, 2, api.OK)
	checkHolds(t, b, 0)
}

// P8, and the words 'to write': an error of the Append

func TestABatchThatTheLogHasNoRoomFor(t *testing.T) {
	_, a, b := three(t)
	x := nobodys()
	for range 16 {
		x.Records = append(x.Records, api.Record{Value: strings.Repeat("v", 4000)})
	}
	// The log takes 65504 bytes: 9 of the frame, 18 of the batch, and 16 times 4005.
	x.Records[0].Key = strings.Repeat("k", 1000)
	x.Records[1].Key = strings.Repeat("k", 65504-9-18-16*4005-1000)
	checkProduce(t, a, 0, x, 0, api.OK)
	x.Records[1].Key += "k"
	checkProduce(t, a, 0, x, 0, api.ErrSize)
	checkHolds(t, a)
	x.Records[1].Key += strings.Repeat("k", 31+9)
	checkProduce(t, a, 0, x, 0, api.ErrSize)
	x.Records[1].Key += "k" // the batch itself is too great: nobody is asked
	checkEnds(t, a, 0, 0, 16, 16, api.OK)
	checkProduce(t, a, 0, x, 0, api.ErrSize)
	checkHolds(t, a, 0)
	checkProduce(t, b, 0, nobodys("a"), 16, api.OK)
}

func TestALogletThatIsFull(t *testing.T) {
	l := mustLink(t, 1, 1, api.MaxBlocks)
	b := mustBroker(t, l, 0, 1, 1)
	for i := range api.MaxSlots {
		checkProduce(t, b, 0, nobodys("a"), i, api.OK)
	}
	checkProduce(t, b, 0, nobodys("a"), 0, api.ErrOver)
	checkHolds(t, b)
	checkProduce(t, b, 0, nobodys("a"), 0, api.ErrFull) // there is no room for a seal
	checkHolds(t, b)
}

// TestDisksThatAreFull: it is told, and what was told is still there for who holds it.
func TestDisksThatAreFull(t *testing.T) {
	l := mustLink(t, 3, 3, 5)
	b := mustBroker(t, l, 0, 2, 1)
	for i := range 4 {
		checkProduce(t, b, 0, nobodys("a"), i, api.OK)
	}
	checkProduce(t, b, 1, of(5, 0, 0, "b"), 0, api.OK)
	checkFetch(t, b, 0, 0, false, 4, "0:a", "1:a", "2:a", "3:a")
	checkProduce(t, b, 1, of(5, 0, 1, "b"), 0, api.ErrFull)
	checkHolds(t, b, 0)
	checkProduce(t, b, 1, of(5, 0, 1, "b"), 0, api.ErrFull)
	checkFetch(t, b, 0, 0, false, 4, "0:a", "1:a", "2:a", "3:a")
	checkHolds(t, b, 0)
}

// TestAChainThatIsFull: a log that was extended too often can't be held any more.
func TestAChainThatIsFull(t *testing.T) {
	_, a, b := three(t)
	last := api.OK
	for i := range 200 {
		_, last = []*broker.Broker{a, b}[i%2].Produce(0, nobodys("a"))
		if last == api.ErrFull {
			break
		}
	}
	if last != api.ErrFull || a.Holds(0) && b.Holds(0) {
		t.Errorf("the last one: %d, %v, %v", last, a.Holds(0), b.Holds(0))
	}
}
