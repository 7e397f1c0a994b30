package producer_test

import (
	"fmt"
	"math"
	"slices"
	"strings"
	"testing"

	"gazette/api"
	"gazette/producer"
)

const (
	topEpoch    = 1<<31 - 1
	topProducer = api.MaxNumber - 1
)

// of is a batch of n records.
func of(producer, epoch, seq, n int) api.Batch {
	return api.Batch{Kind: api.Plain, Producer: producer, Epoch: epoch, Seq: seq, Records: make([]api.Record, n)}
}

func nobodys(n int) api.Batch { return of(-1, 0, 0, n) }

func marker(kind, producer, epoch int) api.Batch {
	return api.Batch{Kind: kind, Producer: producer, Epoch: epoch}
}

func bothMarkers(producer, epoch int) []api.Batch {
	return []api.Batch{marker(api.Commit, producer, epoch), marker(api.Abort, producer, epoch)}
}

// refused has a batch for each thing that batch.Check finds, of the producer 1.
func refused() map[string]struct {
	b api.Batch
	e api.Errno
} {
	type row = struct {
		b api.Batch
		e api.Errno
	}
	with := func(change func(b *api.Batch)) api.Batch {
		b := of(1, 0, 0, 1)
		change(&b)
		return b
	}
	return map[string]row{
		"nothing":                 {api.Batch{}, api.ErrArg},
		"Kind 4":                  {with(func(b *api.Batch) { b.Kind = 4 }), api.ErrArg},
		"Kind -1":                 {with(func(b *api.Batch) { b.Kind = -1 }), api.ErrArg},
		"Producer -2":             {of(-2, 0, 0, 1), api.ErrArg},
		"the least Producer":      {of(math.MinInt, 0, 0, 1), api.ErrArg},
		"Producer MaxNumber":      {of(api.MaxNumber, 0, 0, 1), api.ErrArg},
		"the greatest Producer":   {of(math.MaxInt, 0, 0, 1), api.ErrArg},
		"Epoch -1":                {of(1, -1, 0, 1), api.ErrArg},
		"Epoch 2^31":              {of(1, 1<<31, 0, 1), api.ErrArg},
		"nobody's Epoch":          {of(-1, 1, 0, 1), api.ErrArg},
		"nobody's Seq":            {of(-1, 0, 1, 1), api.ErrArg},
		"nobody InTxn":            {api.Batch{Kind: api.Plain, Producer: -1, InTxn: true, Records: make([]api.Record, 1)}, api.ErrArg},
		"nobody's marker":         {marker(api.Commit, -1, 0), api.ErrArg},
		"a marker's Seq":          {api.Batch{Kind: api.Abort, Producer: 1, Seq: 1}, api.ErrArg},
		"a marker InTxn":          {api.Batch{Kind: api.Abort, Producer: 1, InTxn: true}, api.ErrArg},
		"a marker's Records":      {api.Batch{Kind: api.Commit, Producer: 1, Records: make([]api.Record, 1)}, api.ErrSize},
		"no Records":              {of(1, 0, 0, 0), api.ErrSize},
		"nobody's no Records":     {nobodys(0), api.ErrSize},
		"65 Records":              {of(1, 0, 0, api.MaxBatch+1), api.ErrSize},
		"a long Key":              {with(func(b *api.Batch) { b.Records[0].Key = strings.Repeat("k", 1001) }), api.ErrSize},
		"a long Value":            {with(func(b *api.Batch) { b.Records[0].Value = strings.Repeat("v", 4001) }), api.ErrSize},
		"Dead with a Value":       {with(func(b *api.Batch) { b.Records[0] = api.Record{Value: "v", Dead: true} }), api.ErrSize},
		"Seq -1":                  {of(1, 0, -1, 1), api.ErrOver},
		"the least Seq":           {of(1, 0, math.MinInt, 1), api.ErrOver},
		"Seq MaxSeq":              {of(1, 0, api.MaxSeq, 1), api.ErrOver},
		"Seq and Len over MaxSeq": {of(1, 0, api.MaxSeq-1, 2), api.ErrOver},
		"the greatest Seq":        {of(1, 0, math.MaxInt, 1), api.ErrOver},
		"too many bytes": {with(func(b *api.Batch) {
			b.Records = slices.Repeat([]api.Record{{Key: strings.Repeat("k", 1000), Value: strings.Repeat("v", 4000)}}, 14)
		}), api.ErrSize},
	}
}

func done(seq, length, offset int) producer.Done {
	return producer.Done{Seq: seq, Len: length, Offset: offset}
}

func entry(id, epoch, next int, last ...producer.Done) producer.Entry {
	return producer.Entry{Producer: id, Epoch: epoch, Next: next, Last: last}
}

func sameEntry(a, b producer.Entry) bool {
	return a.Producer == b.Producer && a.Epoch == b.Epoch && a.Next == b.Next && slices.Equal(a.Last, b.Last)
}

func same(a, b []producer.Entry) bool { return slices.EqualFunc(a, b, sameEntry) }

// like is a copy that shares nothing with l.
func like(l []producer.Entry) []producer.Entry {
	l = slices.Clone(l)
	for i, x := range l {
		l[i].Last = slices.Clone(x.Last)
	}
	return l
}

func mustNew(t *testing.T) *producer.Table {
	t.Helper()
	x := producer.New()
	if x == nil {
		t.Fatal("New: nil")
	}
	return x
}

func mustLoad(t *testing.T, l ...producer.Entry) *producer.Table {
	t.Helper()
	x, e := producer.Load(l)
	if x == nil || e != api.OK {
		t.Fatalf("Load(%v): %v, %d", l, x, e)
	}
	return x
}

func mustNote(t *testing.T, x *producer.Table, b api.Batch, offset int) {
	t.Helper()
	if e := x.Note(b, offset); e != api.OK {
		t.Fatalf("Note(%s, %d): %d", brief(b), offset, e)
	}
}

// grown is a table whose producer 1 has noted n batches in the epoch 3: the batch i is one of i+1 records (or of MaxBatch), at the offset 100*i.
func grown(t *testing.T, n int) (*producer.Table, []api.Batch) {
	t.Helper()
	x, seq := mustNew(t), 0
	var list []api.Batch
	for i := range n {
		b := of(1, 3, seq, min(i+1, api.MaxBatch))
		mustNote(t, x, b, 100*i)
		list = append(list, b)
		seq += len(b.Records)
	}
	return x, list
}

func checkEntries(t *testing.T, x *producer.Table, want ...producer.Entry) {
	t.Helper()
	if l := x.Entries(); !same(l, want) {
		t.Errorf("Entries: %v, not %v", l, want)
	}
}

// checkDecide looks that a Decide has this answer, and that nothing changes by it.
func checkDecide(t *testing.T, x *producer.Table, b api.Batch, offset int, dup bool, e api.Errno) {
	t.Helper()
	was := x.Entries()
	for range 2 {
		if n, d, got := x.Decide(b); n != offset || d != dup || got != e {
			t.Errorf("Decide(%s): %d, %v, %d, not %d, %v, %d", brief(b), n, d, got, offset, dup, e)
		}
	}
	checkEntries(t, x, was...)
}

func checkOK(t *testing.T, x *producer.Table, b api.Batch) {
	t.Helper()
	checkDecide(t, x, b, 0, false, api.OK)
}

// checkDup looks at a duplicate: neither Decide nor Note changes anything.
func checkDup(t *testing.T, x *producer.Table, b api.Batch, offset int) {
	t.Helper()
	checkDecide(t, x, b, offset, true, api.OK)
	checkSameBehind(t, x, b, 12345, api.OK)
}

// checkRefused looks at a batch that neither Decide nor Note takes.
func checkRefused(t *testing.T, x *producer.Table, b api.Batch, e api.Errno) {
	t.Helper()
	checkDecide(t, x, b, 0, false, e)
	checkSameBehind(t, x, b, 7, e)
}

// checkSameBehind looks at a Note by which nothing changes.
func checkSameBehind(t *testing.T, x *producer.Table, b api.Batch, offset int, e api.Errno) {
	t.Helper()
	was := x.Entries()
	if got := x.Note(b, offset); got != e {
		t.Errorf("Note(%s, %d): %d, not %d", brief(b), offset, got, e)
	}
	checkEntries(t, x, was...)
}

// brief tells a batch without what its records say.
func brief(b api.Batch) string {
	return fmt.Sprintf("{Kind %d, Producer %d, Epoch %d, Seq %d, InTxn %v, %d Records}", b.Kind, b.Producer, b.Epoch, b.Seq, b.InTxn, len(b.Records))
}
