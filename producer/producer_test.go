package producer_test

import (
	"math"
	"testing"

	"gazette/api"
	"gazette/producer"
)

func TestExamples(t *testing.T) {
	x := mustNew(t)
	checkOK(t, x, of(1, 0, 0, 2))
	mustNote(t, x, of(1, 0, 0, 2), 7)
	checkDup(t, x, of(1, 0, 0, 2), 7)
	checkOK(t, x, of(1, 0, 2, 1))
	checkRefused(t, x, of(1, 0, 3, 1), api.ErrOrder)
	checkOK(t, x, of(1, 1, 0, 1))
}

// P1201

func TestTablesThatNobodyMade(t *testing.T) {
	for name, x := range map[string]*producer.Table{"nil": nil, "zero": {}, "new": new(producer.Table)} {
		for _, b := range []api.Batch{{}, of(1, 0, 0, 1), of(1, 0, 1, 1), of(1, 0, -1, 1), of(1, 0, 0, 0), nobodys(1), marker(api.Commit, 1, 0)} {
			if n, dup, e := x.Decide(b); n != 0 || dup || e != api.ErrArg {
				t.Errorf("%s: Decide(%s): %d, %v, %d", name, brief(b), n, dup, e)
			}
			for _, offset := range []int{-1, 0, 7} {
				if e := x.Note(b, offset); e != api.ErrArg {
					t.Errorf("%s: Note(%s, %d): %d", name, brief(b), offset, e)
				}
			}
		}
		if l := x.Entries(); len(l) != 0 {
			t.Errorf("%s: Entries: %v", name, l)
		}
	}
}

func TestTablesAreApart(t *testing.T) {
	x, y := mustNew(t), mustNew(t)
	mustNote(t, x, of(1, 0, 0, 1), 5)
	checkEntries(t, y)
	l := x.Entries()
	z, w := mustLoad(t, l...), mustLoad(t, l...)
	mustNote(t, z, of(1, 0, 1, 1), 6)
	checkEntries(t, x, l...)
	checkEntries(t, w, l...)
	checkEntries(t, z, entry(1, 0, 2, done(0, 1, 5), done(1, 1, 6)))
}

// P1202

func TestBatchesThatMayNotBe(t *testing.T) {
	for name, c := range refused() {
		t.Run(name, func(t *testing.T) {
			x := mustNew(t)
			checkRefused(t, x, c.b, c.e)
			mustNote(t, x, of(1, 0, 0, 2), 7)
			checkRefused(t, x, c.b, c.e)
			mustNote(t, x, marker(api.Abort, 1, topEpoch), 8) // ErrFence would be next
			checkRefused(t, x, c.b, c.e)
		})
	}
}

func TestNobodysBatches(t *testing.T) {
	x := mustNew(t)
	for _, n := range []int{1, 2, api.MaxBatch} {
		for range 2 {
			checkOK(t, x, nobodys(n))
			checkSameBehind(t, x, nobodys(n), 3, api.OK)
		}
	}
	checkEntries(t, x)
	mustNote(t, x, of(0, 4, 0, 1), 7)
	checkOK(t, x, nobodys(1))
	checkSameBehind(t, x, nobodys(1), 3, api.OK)
}

func TestAProducerThatIsNotKnown(t *testing.T) {
	x := mustNew(t)
	mustNote(t, x, of(2, 5, 0, 9), 0) // its neighbour says nothing of it
	for _, id := range []int{0, 1, 3, topProducer} {
		for _, epoch := range []int{0, 1, topEpoch} {
			for _, n := range []int{1, 2, api.MaxBatch} {
				checkOK(t, x, of(id, epoch, 0, n))
				for _, seq := range []int{1, n, 9, api.MaxSeq - n} {
					checkRefused(t, x, of(id, epoch, seq, n), api.ErrOrder)
				}
			}
			for _, b := range bothMarkers(id, epoch) {
				checkOK(t, x, b)
			}
		}
	}
}

func TestMarkersOfAProducerThatIsKnown(t *testing.T) {
	x := mustLoad(t, entry(1, 5, 2, done(0, 2, 7)), entry(2, 0, 0), entry(3, topEpoch, api.MaxSeq))
	for i := range 2 {
		for _, c := range []struct{ id, most int }{{1, 5}, {2, 0}, {3, topEpoch}} {
			for _, epoch := range []int{0, c.most - 2, c.most - 1, c.most, c.most + 1, topEpoch} {
				switch b := bothMarkers(c.id, epoch)[i]; {
				case epoch < 0 || epoch > topEpoch:
					checkRefused(t, x, b, api.ErrArg)
				case epoch < c.most:
					checkRefused(t, x, b, api.ErrFence)
				default:
					checkOK(t, x, b)
				}
			}
		}
	}
}

func TestEpochsOfAProducerThatIsKnown(t *testing.T) {
	x := mustLoad(t, entry(1, 5, 9, done(3, 4, 70), done(7, 2, 80)))
	for _, n := range []int{1, 2, api.MaxBatch} {
		for _, seq := range []int{0, 1, 3, 7, 8, 9, 10, api.MaxSeq - n} {
			for _, epoch := range []int{0, 4} {
				checkRefused(t, x, of(1, epoch, seq, n), api.ErrFence)
			}
			for _, epoch := range []int{6, topEpoch} {
				if seq == 0 {
					checkOK(t, x, of(1, epoch, seq, n))
				} else {
					checkRefused(t, x, of(1, epoch, seq, n), api.ErrOrder)
				}
			}
		}
	}
}

func TestNumbersOfOneEpoch(t *testing.T) {
	x := mustLoad(t, entry(1, 5, 9, done(3, 4, 70), done(7, 2, 80)))
	for _, n := range []int{1, 2, 3, 4, 5, api.MaxBatch} {
		for seq := range 9 {
			switch b := of(1, 5, seq, n); {
			case seq == 3 && n == 4:
				checkDup(t, x, b, 70)
			case seq == 7 && n == 2:
				checkDup(t, x, b, 80)
			default:
				checkRefused(t, x, b, api.ErrDup)
			}
		}
		checkOK(t, x, of(1, 5, 9, n))
		for _, seq := range []int{10, 11, 9 + n, api.MaxSeq - n} {
			checkRefused(t, x, of(1, 5, seq, n), api.ErrOrder)
		}
	}
}

// TestWhatABatchSaysBesideItsNumbers: a duplicate is one by its Seq and Len, whatever its records are.
func TestWhatABatchSaysBesideItsNumbers(t *testing.T) {
	x := mustNew(t)
	mustNote(t, x, of(1, 0, 0, 2), 7)
	b := of(1, 0, 0, 2)
	b.InTxn = true
	b.Records = []api.Record{{Key: "k", Value: "v"}, {Key: "k", Dead: true}}
	checkDup(t, x, b, 7)
	b.Seq = 2
	mustNote(t, x, b, 9)
	checkDup(t, x, of(1, 0, 2, 2), 9)
}

// P1203

func TestNoteAtEachOffset(t *testing.T) {
	for _, offset := range []int{0, 1, api.MaxNumber - 1, api.MaxNumber} {
		x := mustNew(t)
		mustNote(t, x, of(1, 0, 0, 2), offset)
		checkEntries(t, x, entry(1, 0, 2, done(0, 2, offset)))
		checkDup(t, x, of(1, 0, 0, 2), offset)
	}
}

func TestNoteAtAWrongOffset(t *testing.T) {
	x := mustLoad(t, entry(1, 1, 2, done(0, 2, 7)))
	for _, offset := range []int{math.MinInt, -1, api.MaxNumber + 1, math.MaxInt} {
		for _, b := range []api.Batch{
			of(1, 1, 2, 1), of(2, 0, 0, 1), nobodys(1), marker(api.Commit, 2, 0), marker(api.Abort, 1, 2),
			of(1, 1, 0, 2), of(1, 0, 0, 1), of(1, 1, 9, 1), of(1, 1, 1, 1), of(1, 0, 0, 0), of(1, 0, -1, 1),
		} {
			checkSameBehind(t, x, b, offset, api.ErrArg)
		}
	}
}

func TestNoteAnswersDecidesError(t *testing.T) {
	x := mustLoad(t, entry(1, 1, 2, done(0, 2, 7)))
	for _, offset := range []int{0, 7, api.MaxNumber} {
		checkSameBehind(t, x, of(1, 0, 0, 0), offset, api.ErrSize)
		checkSameBehind(t, x, of(1, 0, -1, 1), offset, api.ErrOver)
		checkSameBehind(t, x, api.Batch{}, offset, api.ErrArg)
		checkSameBehind(t, x, of(1, 0, 0, 1), offset, api.ErrFence)
		checkSameBehind(t, x, marker(api.Commit, 1, 0), offset, api.ErrFence)
		checkSameBehind(t, x, of(1, 1, 9, 1), offset, api.ErrOrder)
		checkSameBehind(t, x, of(1, 2, 1, 1), offset, api.ErrOrder)
		checkSameBehind(t, x, of(2, 0, 1, 1), offset, api.ErrOrder)
		checkSameBehind(t, x, of(1, 1, 1, 1), offset, api.ErrDup)
		checkSameBehind(t, x, of(1, 1, 0, 2), offset, api.OK) // a duplicate
		checkSameBehind(t, x, nobodys(1), offset, api.OK)
	}
}

func TestNoteOfRecords(t *testing.T) {
	x := mustNew(t)
	mustNote(t, x, of(1, 4, 0, 3), 9)
	checkEntries(t, x, entry(1, 4, 3, done(0, 3, 9)))
	mustNote(t, x, of(1, 4, 3, api.MaxBatch), 0) // offsets are the caller's: they may fall
	checkEntries(t, x, entry(1, 4, 67, done(0, 3, 9), done(3, 64, 0)))
	mustNote(t, x, of(0, 0, 0, 1), 9)
	checkEntries(t, x, entry(0, 0, 1, done(0, 1, 9)), entry(1, 4, 67, done(0, 3, 9), done(3, 64, 0)))
	mustNote(t, x, of(1, 5, 0, 2), 77)
	checkEntries(t, x, entry(0, 0, 1, done(0, 1, 9)), entry(1, 5, 2, done(0, 2, 77)))
}

func TestNoteOfMarkers(t *testing.T) {
	for i := range 2 {
		note := func(x *producer.Table, id, epoch int) { mustNote(t, x, bothMarkers(id, epoch)[i], 50) }
		x := mustNew(t)
		note(x, 1, 4)
		checkEntries(t, x, entry(1, 4, 0))
		note(x, 0, 0)
		checkEntries(t, x, entry(0, 0, 0), entry(1, 4, 0))
		mustNote(t, x, of(1, 4, 0, 3), 9)
		note(x, 1, 4)
		note(x, 1, 4)
		checkEntries(t, x, entry(0, 0, 0), entry(1, 4, 3, done(0, 3, 9)))
		mustNote(t, x, of(1, 4, 3, 1), 12)
		note(x, 1, topEpoch)
		checkEntries(t, x, entry(0, 0, 0), entry(1, topEpoch, 0))
	}
}

func TestBehindAMarkerOfAHigherEpoch(t *testing.T) {
	for i := range 2 {
		x, list := grown(t, 8)
		mustNote(t, x, bothMarkers(1, 5)[i], 1000)
		for _, b := range list {
			checkRefused(t, x, b, api.ErrFence)
			b.Epoch = 4
			checkRefused(t, x, b, api.ErrFence)
			b.Epoch = 5
			if b.Seq > 0 {
				checkRefused(t, x, b, api.ErrOrder)
			}
		}
		checkRefused(t, x, of(1, 5, 36, 9), api.ErrOrder) // what was next in the epoch ahead of it
		checkRefused(t, x, marker(api.Commit, 1, 4), api.ErrFence)
		mustNote(t, x, of(1, 5, 0, 2), 1001)
		checkDup(t, x, of(1, 5, 0, 2), 1001)
		checkRefused(t, x, of(1, 5, 0, 1), api.ErrDup)
		checkOK(t, x, of(1, 5, 2, 1))
		checkEntries(t, x, entry(1, 5, 2, done(0, 2, 1001)))
	}
}

func TestTheLastWindowOfBatches(t *testing.T) {
	for n := range 4 * api.Window {
		x, list := grown(t, n)
		for i, b := range list {
			more, less := b, b
			more.Records = make([]api.Record, len(b.Records)+1)
			less.Records = b.Records[1:]
			checkRefused(t, x, more, api.ErrDup)
			if len(less.Records) > 0 {
				checkRefused(t, x, less, api.ErrDup)
			}
			if i < n-api.Window {
				checkRefused(t, x, b, api.ErrDup)
			} else {
				checkDup(t, x, b, 100*i)
			}
		}
		if n == 0 {
			checkEntries(t, x)
			continue
		}
		want := entry(1, 3, n*(n+1)/2)
		for i := max(0, n-api.Window); i < n; i++ {
			want.Last = append(want.Last, done(list[i].Seq, i+1, 100*i))
		}
		checkEntries(t, x, want)
	}
}

// TestADuplicateMovesNothing: a batch that comes again does not push an older one out.
func TestADuplicateMovesNothing(t *testing.T) {
	x, list := grown(t, 8)
	for range 3 {
		for i := 3; i < 8; i++ {
			checkSameBehind(t, x, list[i], 5, api.OK)
			checkDup(t, x, list[3], 300)
		}
	}
	checkRefused(t, x, list[2], api.ErrDup)
}

func TestNumbersAreUsedUp(t *testing.T) {
	x := mustLoad(t, entry(1, 0, api.MaxSeq-64))
	checkRefused(t, x, of(1, 0, api.MaxSeq-64, api.MaxBatch+1), api.ErrSize)
	mustNote(t, x, of(1, 0, api.MaxSeq-64, 63), 1)
	checkRefused(t, x, of(1, 0, api.MaxSeq-1, 2), api.ErrOver)
	mustNote(t, x, of(1, 0, api.MaxSeq-1, 1), 2)
	checkEntries(t, x, entry(1, 0, api.MaxSeq, done(api.MaxSeq-64, 63, 1), done(api.MaxSeq-1, 1, 2)))
	checkRefused(t, x, of(1, 0, api.MaxSeq, 1), api.ErrOver)
	checkRefused(t, x, of(1, 0, api.MaxSeq-2, 1), api.ErrDup)
	checkRefused(t, x, of(1, 0, 0, 1), api.ErrDup)
	checkDup(t, x, of(1, 0, api.MaxSeq-1, 1), 2)
	checkOK(t, x, marker(api.Commit, 1, 0))
	mustNote(t, x, of(1, 1, 0, 1), 3)
	checkEntries(t, x, entry(1, 1, 1, done(0, 1, 3)))
}

func TestAllNumbersAreUsedUp(t *testing.T) {
	x := mustLoad(t, entry(topProducer, topEpoch, api.MaxSeq-1))
	mustNote(t, x, of(topProducer, topEpoch, api.MaxSeq-1, 1), api.MaxNumber)
	checkEntries(t, x, entry(topProducer, topEpoch, api.MaxSeq, done(api.MaxSeq-1, 1, api.MaxNumber)))
	checkRefused(t, x, of(topProducer, topEpoch, 0, 1), api.ErrDup)
	checkRefused(t, x, of(topProducer, topEpoch, api.MaxSeq, 1), api.ErrOver)
	checkRefused(t, x, of(topProducer, topEpoch+1, 0, 1), api.ErrArg)
	checkDup(t, x, of(topProducer, topEpoch, api.MaxSeq-1, 1), api.MaxNumber)
}
