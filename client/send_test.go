package client_test

import (
	"fmt"
	"slices"
	"strings"
	"testing"

	"gazette/api"
	"gazette/client"
	"gazette/cluster"
	"gazette/ledger"
	"gazette/txn"
)

// once is a client with one try a call, on two brokers.
func once(t *testing.T) (*cluster.Cluster, *client.Client) {
	t.Helper()
	c := box(t, 2)
	x := mustClient(t, c, "x", 1)
	check(t, "Start", x.Start(10), api.OK)
	return c, x
}

// luck lays so many numbers of a kind.
func luck(c *cluster.Cluster, kind, times int) { c.Luck(slices.Repeat([]int{kind}, times)) }

// P1904

func TestSend(t *testing.T) {
	_, x := started(t, 2)
	checkSend(t, x, 0, "a", 0, api.OK)
	checkSend(t, x, 0, "b", 1, api.OK)
	checkSend(t, x, 1, "c", 0, api.OK)
	if n, e := x.Send(0, records("d", "e", "f")); n != 2 || e != api.OK {
		t.Errorf("Send: %d, %d", n, e)
	}
	checkSend(t, x, 0, "g", 5, api.OK)
	checkSend(t, x, 1, "h", 1, api.OK)
	checkPending(t, x)
	checkRows(t, x, 0, true, "0:a 1:b 2:d 3:e 4:f 5:g")
	checkRows(t, x, 1, true, "0:c 1:h")
}

// TestWhatIsSent is a batch of the client's producer, in its transaction, or in none, with just these records.
func TestWhatIsSent(t *testing.T) {
	c := box(t, 1)
	check(t, "Start of another one", mustClient(t, c, "y", 1).Start(10), api.OK)
	x := mustClient(t, c, "x", 1)
	check(t, "Start", x.Start(10), api.OK)
	sent := []api.Record{{Key: "k", Value: "v"}, {}, {Key: "k", Dead: true}, {Value: strings.Repeat("v", 4000)}, {Key: strings.Repeat("k", 1000)}}
	for i, in := range []bool{false, true} {
		if in {
			check(t, "Begin", x.Begin(), api.OK)
		}
		if n, e := x.Send(0, sent); n != 5*i || e != api.OK {
			t.Errorf("Send: %d, %d", n, e)
		}
		rows, _, _ := x.Read(0, 5*i, 9, false)
		for k, r := range rows {
			if want := (ledger.Row{Offset: 5*i + k, Producer: 1, InTxn: in, Record: sent[k]}); r != want {
				t.Errorf("Read: %v, not %v", r, want)
			}
		}
		if len(rows) != 5 {
			t.Errorf("there are %d rows", len(rows))
		}
	}
}

// TestSendWithNumbers: the broker is told the producer, the epoch and the number of each batch: it takes none that is not next.
func TestSendWithNumbers(t *testing.T) {
	c, x := started(t, 1)
	b := mustBroker(t, c, 0)
	checkSend(t, x, 0, "a", 0, api.OK)
	of := func(epoch, seq int, values ...string) api.Batch {
		return api.Batch{Kind: api.Plain, Producer: 0, Epoch: epoch, Seq: seq, Records: records(values...)}
	}
	// The number 1 is somebody else's by now: what is sent with it, and as many records, was there already.
	if n, e := b.Produce(0, of(0, 1, "b")); n != 1 || e != api.OK {
		t.Errorf("Produce: %d, %d", n, e)
	}
	checkSend(t, x, 0, "c", 1, api.OK)
	checkSend(t, x, 0, "d", 2, api.OK)
	checkRows(t, x, 0, false, "0:a 1:b 2:d")
	if n, e := b.Produce(0, of(0, 3, "e", "f")); n != 3 || e != api.OK {
		t.Errorf("Produce: %d, %d", n, e)
	}
	checkSend(t, x, 0, "g", 0, api.ErrDup)
	checkPending(t, x)
	if n, e := b.Produce(0, of(1, 0, "h")); n != 5 || e != api.OK {
		t.Errorf("Produce: %d, %d", n, e)
	}
	checkSend(t, x, 0, "i", 0, api.ErrFence)
	checkPending(t, x)
	// A number that was left out.
	client.SetNext(x, 1, 4)
	checkSend(t, x, 1, "j", 0, api.ErrOrder)
	checkPending(t, x)
	client.SetNext(x, 1, 0)
	checkSend(t, x, 1, "k", 0, api.OK)
}

func TestSendWithoutAProducer(t *testing.T) {
	c := box(t, 1)
	x := mustClient(t, c, "x", 5)
	luck(c, late, 1)
	for _, part := range []int{-1, 0, 1, 2} {
		checkSend(t, x, part, "a", 0, api.ErrState)
		if n, e := x.Send(part, nil); n != 0 || e != api.ErrState {
			t.Errorf("Send: %d, %d", n, e)
		}
		if n, e := x.Send(part, make([]api.Record, 65)); n != 0 || e != api.ErrState {
			t.Errorf("Send: %d, %d", n, e)
		}
	}
	checkPending(t, x)
	if c.Late() > 0 {
		t.Errorf("messages are sent")
	}
}

// TestSendWithSomethingPending: for that partition, and for another one.
func TestSendWithSomethingPending(t *testing.T) {
	c, x := once(t)
	luck(c, lost, 50)
	checkSend(t, x, 0, "a", 0, api.ErrLost)
	checkPending(t, x, 0)
	checkSend(t, x, 0, "b", 0, api.ErrState)
	if n, e := x.Send(0, nil); n != 0 || e != api.ErrState {
		t.Errorf("Send of nothing: %d, %d", n, e)
	}
	checkPending(t, x, 0)
	check(t, "Well", c.Well(), api.OK)
	checkSend(t, x, 0, "b", 0, api.ErrState)
	checkSend(t, x, 1, "c", 0, api.OK)
	checkSend(t, x, 1, "d", 1, api.OK)
	checkPending(t, x, 0)
	luck(c, lost, 50)
	checkSend(t, x, 1, "e", 0, api.ErrLost)
	checkPending(t, x, 0, 1)
	check(t, "Well", c.Well(), api.OK)
	checkRetry(t, x, 0, 0, api.ErrNone) // there is no broker 2
	checkRetry(t, x, 0, 0, api.OK)
	checkPending(t, x, 1)
	checkRetry(t, x, 1, 2, api.OK)
	checkPending(t, x)
	checkRows(t, x, 0, false, "0:a")
	checkRows(t, x, 1, false, "0:c 1:d 2:e")
}

// TestRecordsThatAreRefused: nothing is sent, nothing is pending, and the number stays.
func TestRecordsThatAreRefused(t *testing.T) {
	c := lone(t)
	x := mustClient(t, c, "x", 3)
	check(t, "Start", x.Start(10), api.OK)
	checkSend(t, x, 0, "a", 0, api.OK)
	big := make([]api.Record, 17)
	for i := range big {
		big[i] = api.Record{Value: strings.Repeat("v", 4000)}
	}
	for _, in := range []bool{false, true} {
		if in {
			check(t, "Begin", x.Begin(), api.OK)
		}
		for _, l := range [][]api.Record{
			nil, {}, make([]api.Record, 65), {{Key: strings.Repeat("k", 1001)}}, {{Value: strings.Repeat("v", 4001)}},
			{{Dead: true, Value: "v"}}, {{}, {Dead: true, Value: "v"}}, big,
		} {
			checkSent(t, c, "Send", 0, func() {
				if n, e := x.Send(0, l); n != 0 || e != api.ErrSize {
					t.Errorf("Send of %d records: %d, %d", len(l), n, e)
				}
				if n, e := x.Send(5, l); n != 0 || e != api.ErrSize {
					t.Errorf("Send of %d records to the partition 5: %d, %d", len(l), n, e)
				}
			})
			checkPending(t, x)
		}
	}
	check(t, "End without places", x.End(true), api.OK)
	checkSend(t, x, 0, "b", 1, api.OK)
}

// TestTheLastNumbers: numbers are used up.
func TestTheLastNumbers(t *testing.T) {
	_, x := started(t, 1)
	checkSend(t, x, 0, "a", 0, api.OK)
	for _, n := range []int{api.MaxSeq, api.MaxSeq - 1} {
		client.SetNext(x, 0, n)
		if n, e := x.Send(0, records("b", "c")); n != 0 || e != api.ErrOver {
			t.Errorf("Send: %d, %d", n, e)
		}
		checkPending(t, x)
	}
	checkSend(t, x, 0, "b", 0, api.ErrOrder) // it may be, but is not next
	client.SetNext(x, 0, api.MaxSeq)
	checkSend(t, x, 0, "b", 0, api.ErrOver)
	client.SetNext(x, 0, 1)
	checkSend(t, x, 0, "b", 1, api.OK)
}

// TestABatchThatIsTooGreatForALog is one for batch.Check: the broker refuses it.
func TestABatchThatIsTooGreatForALog(t *testing.T) {
	_, x := started(t, 2)
	l := make([]api.Record, 17)
	for i := range l {
		l[i].Value = strings.Repeat("v", 3840)
	}
	l[16].Value = strings.Repeat("v", 3993)
	if n, e := x.Send(0, l); n != 0 || e != api.ErrSize {
		t.Errorf("Send: %d, %d", n, e)
	}
	checkPending(t, x)
	checkTurn(t, x, 0)
	checkSend(t, x, 0, "a", 0, api.OK)
}

func TestPartitionsThatThereAreNot(t *testing.T) {
	_, x := started(t, 2)
	for _, part := range []int{-1, 2, 3, 32, 100, 200, 1 << 40, -1 << 60} {
		checkSend(t, x, part, "a", 0, api.ErrArg)
		checkIs(t, "Pending", x.Pending(part), false)
		checkRetry(t, x, part, 0, api.ErrNone)
	}
	checkTurn(t, x, 0)
	checkSend(t, x, 1, "a", 0, api.OK)
}

// P1905

func TestRetryOfNothing(t *testing.T) {
	c := lone(t)
	x := mustClient(t, c, "x", 3)
	retry := func() {
		for _, part := range []int{-1, 0, 1, 2, 1 << 40} {
			checkRetry(t, x, part, 0, api.ErrNone)
		}
	}
	checkSent(t, c, "Retry without a producer", 0, retry)
	check(t, "Start", x.Start(10), api.OK)
	checkSend(t, x, 0, "a", 0, api.OK)
	checkSent(t, c, "Retry behind an OK", 0, retry)
	check(t, "Begin", x.Begin(), api.OK)
	checkSend(t, x, 0, "b", 1, api.OK)
	checkSent(t, c, "Retry in a transaction", 0, retry)
}

// TestRetryOfWhatIsThere: the batch was written, and nobody said so. It is told its own offset.
func TestRetryOfWhatIsThere(t *testing.T) {
	for _, kind := range []int{unanswered, late, twice} {
		c, x := once(t)
		checkSend(t, x, 0, "a", 0, api.OK)
		c.Luck([]int{kind, unanswered, unanswered})
		checkSend(t, x, 0, "b", 0, api.ErrLost)
		checkPending(t, x, 0)
		checkRetry(t, x, 0, 1, api.OK)
		checkPending(t, x)
		checkTurn(t, x, 1)
		for c.Deliver(0) {
		}
		checkSend(t, x, 0, "c", 2, api.OK)
		checkRows(t, x, 0, false, "0:a 1:b 2:c")
	}
}

// TestRetryOfWhatIsNotThere: the batch was lost, or comes too late.
func TestRetryOfWhatIsNotThere(t *testing.T) {
	for _, kind := range []int{lost, late} {
		c, x := once(t)
		checkSend(t, x, 0, "a", 0, api.OK)
		luck(c, kind, 3)
		checkSend(t, x, 0, "b", 0, api.ErrLost)
		checkRetry(t, x, 0, 1, api.OK)
		for c.Deliver(0) {
		}
		checkSend(t, x, 0, "c", 2, api.OK)
		checkRows(t, x, 0, false, "0:a 1:b 2:c")
	}
}

// TestTriesOfOneSend: the same batch goes to one broker behind the other, and stands once.
func TestTriesOfOneSend(t *testing.T) {
	for _, kind := range []int{lost, unanswered, late} {
		c, x := started(t, 3)
		checkSend(t, x, 0, "a", 0, api.OK)
		luck(c, kind, 3)
		checkSend(t, x, 0, "b", 1, api.OK)
		checkTurn(t, x, 1)
		luck(c, kind, 3)
		checkSend(t, x, 0, "c", 2, api.OK)
		checkTurn(t, x, 2)
		luck(c, kind, 3)
		checkSend(t, x, 0, "d", 3, api.OK) // behind the broker 2 there is the broker 0
		checkTurn(t, x, 0)
		checkPending(t, x)
		checkRows(t, x, 0, false, "0:a 1:b 2:c 3:d")
	}
}

// TestRetryManyTimes: as often as it is asked, till the batch is there; the numbers go on behind it by as many records.
func TestRetryManyTimes(t *testing.T) {
	c, x := once(t)
	dark(c)
	if n, e := x.Send(0, records("a", "b", "c")); n != 0 || e != api.ErrLost {
		t.Errorf("Send: %d, %d", n, e)
	}
	for i := range 9 {
		checkRetry(t, x, 0, 0, []api.Errno{api.ErrLost, api.ErrNone, api.ErrLost}[i%3])
		checkPending(t, x, 0)
	}
	lit(c)
	checkRetry(t, x, 0, 0, api.OK)
	checkRetry(t, x, 0, 0, api.ErrNone)
	checkSend(t, x, 0, "d", 3, api.OK)
	checkRows(t, x, 0, false, "0:a 1:b 2:c 3:d")
}

// TestNoneOfAClusterAndOfABroker: the first one passes, the second one does not.
func TestNoneOfAClusterAndOfABroker(t *testing.T) {
	c, x := once(t)
	c.Stop(cluster.Server, 0)
	c.Stop(cluster.Server, 1)
	checkSend(t, x, 0, "a", 0, api.ErrPower)
	checkRetry(t, x, 0, 0, api.ErrPower)
	checkRetry(t, x, 0, 0, api.ErrNone)
	checkPending(t, x, 0)
	// Another cluster's book knows the first producer alone: to the second one its brokers say that there is none.
	d := box(t, 2)
	check(t, "Start of another one", mustClient(t, d, "x", 1).Start(10), api.OK)
	y := mustClient(t, d, "y", 1)
	check(t, "Start", y.Start(10), api.OK)
	check(t, "Begin", y.Begin(), api.OK)
	checkSend(t, y, 0, "a", 0, api.OK)
	*d = *c
	check(t, "Well", d.Well(), api.OK)
	checkSend(t, y, 0, "b", 0, api.ErrNone)
	checkPending(t, y)
	checkTurn(t, y, 0)
}

// TestRetryInATransaction: of a partition that was not added, with an Add ahead of it; of one that was, without.
func TestRetryInATransaction(t *testing.T) {
	c := lone(t)
	x := mustClient(t, c, "x", 1)
	check(t, "Start", x.Start(10), api.OK)
	checkSend(t, x, 0, "a", 0, api.OK)
	checkSend(t, x, 1, "b", 0, api.OK)
	check(t, "Begin", x.Begin(), api.OK)
	// An Add: one message that is written. In a transaction the book is asked of each batch: one more, and one to write it.
	for _, s := range []struct {
		part, messages, offset int
	}{{0, 3, 1}, {0, 2, 2}, {1, 3, 1}, {0, 2, 3}, {1, 2, 2}} {
		checkSent(t, c, fmt.Sprint("Send to ", s.part), s.messages, func() { checkSend(t, x, s.part, "c", s.offset, api.OK) })
	}
	check(t, "End", x.End(true), api.OK)
	check(t, "Begin", x.Begin(), api.OK)
	checkSent(t, c, "Send behind another Begin", 3, func() { checkSend(t, x, 0, "d", 5, api.OK) })
	// The Add is done, and what was sent is lost: the Retry does not add the partition again, but opens what is not the broker's any more.
	c.Luck([]int{comes, comes, lost})
	checkSend(t, x, 1, "e", 0, api.ErrLost)
	checkPending(t, x, 1)
	check(t, "Well", c.Well(), api.OK)
	checkTurn(t, x, 1)
	checkRetry(t, x, 1, 4, api.OK)
	check(t, "End", x.End(true), api.OK)
	checkRows(t, x, 0, true, "0:a +1:c +2:c +3:c +5:d")
	checkRows(t, x, 1, true, "0:b +1:c +2:c +4:e")
}

// TestAnAddThatIsRefused: the batch stays pending, whatever the error is.
func TestAnAddThatIsRefused(t *testing.T) {
	// Somebody else has its name.
	c, x := begun(t, 2)
	check(t, "Start of another one", mustClient(t, c, "x", 5).Start(10), api.OK)
	for range 3 {
		checkSend(t, x, 0, "a", 0, api.ErrFence)
		checkPending(t, x, 0)
		checkRetry(t, x, 0, 0, api.ErrFence)
		check(t, "End", x.End(false), api.ErrState)
		check(t, "Begin", x.Begin(), api.ErrState)
		check(t, "Start", x.Start(10), api.OK)
		checkPending(t, x)
		check(t, "Begin", x.Begin(), api.OK)
		check(t, "Start of another one", mustClient(t, c, "x", 5).Start(10), api.OK)
	}
	// The transaction ahead of it is not marked yet.
	c, x = begun(t, 2)
	checkSend(t, x, 1, "b", 0, api.OK)
	take(t, c, 1, 1)
	check(t, "End", x.End(true), api.OK)
	check(t, "Begin", x.Begin(), api.OK)
	checkSend(t, x, 0, "c", 0, api.ErrState)
	checkPending(t, x, 0)
	checkRetry(t, x, 0, 0, api.ErrState)
	if n, e := c.Settle(); n != 0 || e != api.OK {
		t.Errorf("Settle: %d, %d", n, e)
	}
	checkRetry(t, x, 0, 0, api.OK)
	check(t, "End", x.End(true), api.OK)
	checkRows(t, x, 0, true, "+0:c")
	checkRows(t, x, 1, true, "+0:b")
}

// TestAnAddOfNoPlace: a partition below 0 can't be added, so the batch stays pending.
func TestAnAddOfNoPlace(t *testing.T) {
	_, x := begun(t, 2)
	for _, part := range []int{-1, 1 << 48, -1 << 60} {
		checkSend(t, x, part, "a", 0, api.ErrArg)
		checkIs(t, "Pending", x.Pending(part), true)
		checkRetry(t, x, part, 0, api.ErrArg)
		checkSend(t, x, part, "a", 0, api.ErrState)
	}
	checkSend(t, x, 0, "b", 0, api.OK)
	check(t, "End", x.End(true), api.ErrState)
	check(t, "Start", x.Start(10), api.OK)
	checkPending(t, x)
	check(t, "Begin", x.Begin(), api.OK)
	check(t, "End", x.End(true), api.OK)
}

// TestAnAddOfAPartitionThatIsNot: any place can be added, and the broker refuses the batch.
func TestAnAddOfAPartitionThatIsNot(t *testing.T) {
	for _, part := range []int{2, 31, 100, 199, 200, 299, 300, 1<<48 - 1} {
		c, x := begun(t, 2)
		checkSend(t, x, part, "a", 0, api.ErrArg)
		checkIs(t, "Pending", x.Pending(part), false)
		checkTurn(t, x, 0)
		// It is one of the places: the end is the book's, too.
		for i := range 2 {
			c.Stop(cluster.Server, i)
		}
		if e := x.End(true); e != api.ErrPower && e != api.ErrNone {
			t.Errorf("End: %d", e)
		}
		check(t, "Well", c.Well(), api.OK)
		check(t, "End", x.End(true), api.OK)
		// Nothing is left of it.
		check(t, "Begin", x.Begin(), api.OK)
		checkSend(t, x, 0, "b", 0, api.OK)
		check(t, "End", x.End(true), api.OK)
	}
}

// TestAnAddThatPasses: it stays pending, and is added by a Retry.
func TestAnAddThatPasses(t *testing.T) {
	c := box(t, 2)
	x := mustClient(t, c, "x", 1)
	check(t, "Start", x.Start(10), api.OK)
	checkSend(t, x, 0, "a", 0, api.OK)
	check(t, "Begin", x.Begin(), api.OK)
	luck(c, lost, 3)
	checkSend(t, x, 0, "b", 0, api.ErrLost)
	checkPending(t, x, 0)
	checkTurn(t, x, 1)
	c.Stop(cluster.Server, 1)
	checkRetry(t, x, 0, 0, api.ErrPower)
	checkRetry(t, x, 0, 0, api.ErrNone)
	checkPending(t, x, 0)
	checkRetry(t, x, 0, 1, api.OK)
	checkPending(t, x)
	check(t, "End", x.End(false), api.OK)
	checkRows(t, x, 0, true, "0:a")
	checkRows(t, x, 0, false, "0:a +1:b")
}

// TestABatchBehindItsTransaction: its time is over, and what is pending ends by an error.
func TestABatchBehindItsTransaction(t *testing.T) {
	c, x := begun(t, 2)
	checkSend(t, x, 0, "a", 0, api.OK)
	dark(c)
	if _, e := x.Send(0, records("b")); e == api.OK || !x.Pending(0) {
		t.Errorf("Send: %d", e)
	}
	lit(c)
	c.Tick(10)
	if n, e := c.Settle(); n != 0 || e != api.OK {
		t.Errorf("Settle: %d, %d", n, e)
	}
	checkRetry(t, x, 0, 0, api.ErrFence)
	checkPending(t, x)
	checkSend(t, x, 0, "b", 0, api.ErrFence)
	checkPending(t, x)
	check(t, "End", x.End(true), api.ErrFence)
	checkRows(t, x, 0, true, "")
}

// TestTheClockOfAnAdd: a transaction is open since its first place was added.
func TestTheClockOfAnAdd(t *testing.T) {
	for _, first := range []int{0, firstGroup} {
		for tick, want := range map[int]api.Errno{9: api.OK, 10: api.ErrFence} {
			c, x := started(t, 1)
			mustJoin(t, mustBroker(t, c, 0), 0)
			c.Tick(100)
			check(t, "Begin", x.Begin(), api.OK)
			c.Tick(50)
			if first == 0 {
				checkSend(t, x, 0, "a", 0, api.OK)
			} else {
				check(t, "Promise", x.Promise(0, "m", 1, 0, 5), api.OK)
			}
			c.Tick(tick)
			c.Settle()
			if first == 0 {
				_, e := x.Send(0, records("b"))
				check(t, "Send", e, want)
			}
			check(t, "End", x.End(true), want)
		}
	}
}

// TestExpireOfAnotherOne: each transaction has its own time.
func TestExpireOfAnotherOne(t *testing.T) {
	c, x := begun(t, 2)
	y := mustClient(t, c, "y", 10)
	check(t, "Start", y.Start(3600), api.OK)
	check(t, "Begin", y.Begin(), api.OK)
	checkSend(t, x, 0, "a", 0, api.OK)
	checkSend(t, y, 0, "b", 1, api.OK)
	c.Tick(3599)
	mustBroker(t, c, 0).Txn(txn.Event{Kind: txn.Expire, Now: c.Now()})
	check(t, "End", x.End(true), api.ErrFence)
	check(t, "End", y.End(true), api.OK)
	checkRows(t, x, 0, true, "+1:b")
}
