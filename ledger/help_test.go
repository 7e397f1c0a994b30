package ledger_test

import (
	"fmt"
	"math"
	"reflect"
	"slices"
	"strings"
	"testing"

	"gazette/api"
	"gazette/ledger"
)

const (
	topEpoch    = 1<<31 - 1
	topProducer = api.MaxNumber - 1
	all         = math.MaxInt // as the most rows of a Fetch
)

// records has one for each key; a key behind a ! is one that is Dead.
func records(keys ...string) []api.Record {
	var list []api.Record
	for i, k := range keys {
		if dead, is := strings.CutPrefix(k, "!"); is {
			list = append(list, api.Record{Key: dead, Dead: true})
		} else {
			list = append(list, api.Record{Key: k, Value: fmt.Sprint(k, i)})
		}
	}
	return list
}

func entry(b api.Batch) ledger.Entry { return ledger.Entry{Kind: ledger.Batches, Batch: b} }

// out is a batch in no transaction, in the epoch 0.
func out(producer, seq int, keys ...string) ledger.Entry {
	return entry(api.Batch{Kind: api.Plain, Producer: producer, Seq: seq, Records: records(keys...)})
}

func nobodys(keys ...string) ledger.Entry { return out(-1, 0, keys...) }

// in is a batch in the producer's transaction, in the epoch 0.
func in(producer, seq int, keys ...string) ledger.Entry {
	x := out(producer, seq, keys...)
	x.Batch.InTxn = true
	return x
}

func marker(kind, producer int) ledger.Entry { return entry(api.Batch{Kind: kind, Producer: producer}) }

func commit(producer int) ledger.Entry { return marker(api.Commit, producer) }

func abort(producer int) ledger.Entry { return marker(api.Abort, producer) }

// at is x in another epoch.
func at(epoch int, x ledger.Entry) ledger.Entry {
	x.Batch.Epoch = epoch
	return x
}

func retain(n int) ledger.Entry { return ledger.Entry{Kind: ledger.Retain, N: n} }

func compact(n int) ledger.Entry { return ledger.Entry{Kind: ledger.Compact, N: n} }

// wrong has entries that may not be; of each only one thing is wrong.
func wrong() map[string]ledger.Entry {
	with := func(x ledger.Entry, change func(x *ledger.Entry)) ledger.Entry {
		change(&x)
		return x
	}
	long := records("k")
	long[0].Key = strings.Repeat("k", 1001)
	great := slices.Repeat([]api.Record{{Key: strings.Repeat("k", 1000), Value: strings.Repeat("v", 4000)}}, 14)
	list := map[string]ledger.Entry{
		"nothing":               {},
		"no kind, with a batch": with(out(1, 0, "k"), func(x *ledger.Entry) { x.Kind = 0 }),
		"no Batch":              {Kind: ledger.Batches},
		"a batch of Kind 4":     with(out(1, 0, "k"), func(x *ledger.Entry) { x.Batch.Kind = 4 }),
		"no Records":            out(1, 0),
		"65 Records":            out(1, 0, make([]string, api.MaxBatch+1)...),
		"a long Key":            entry(api.Batch{Kind: api.Plain, Producer: 1, Records: long}),
		"too many bytes":        entry(api.Batch{Kind: api.Plain, Producer: 1, Records: great}),
		"Dead with a Value":     entry(api.Batch{Kind: api.Plain, Producer: 1, Records: []api.Record{{Value: "v", Dead: true}}}),
		"Producer -2":           out(-2, 0, "k"),
		"Producer MaxNumber":    out(api.MaxNumber, 0, "k"),
		"Epoch -1":              at(-1, out(1, 0, "k")),
		"Epoch 2^31":            at(1<<31, out(1, 0, "k")),
		"Seq -1":                out(1, -1, "k"),
		"Seq and Len over":      out(1, api.MaxSeq-1, "k", "k"),
		"nobody InTxn":          in(-1, 0, "k"),
		"nobody's marker":       commit(-1),
		"a marker's Seq":        with(abort(1), func(x *ledger.Entry) { x.Batch.Seq = 1 }),
		"a marker InTxn":        with(abort(1), func(x *ledger.Entry) { x.Batch.InTxn = true }),
		"a marker's Records":    with(commit(1), func(x *ledger.Entry) { x.Batch.Records = records("k") }),
	}
	for _, n := range []int{math.MinInt, -1, 1, api.MaxNumber, api.MaxNumber + 1, math.MaxInt} {
		list[fmt.Sprint("an N beside a batch: ", n)] = with(out(1, 0, "k"), func(x *ledger.Entry) { x.N = n })
		list[fmt.Sprint("an N beside a marker: ", n)] = with(abort(1), func(x *ledger.Entry) { x.N = n })
	}
	for _, kind := range []int{math.MinInt, -1, 0, 4, 16, 17, 18, 257, math.MaxInt} {
		list[fmt.Sprint("kind ", kind)] = ledger.Entry{Kind: kind}
		list[fmt.Sprint("kind and N ", kind)] = ledger.Entry{Kind: kind, N: 1}
		list[fmt.Sprint("kind and batch ", kind)] = ledger.Entry{Kind: kind, Batch: out(1, 0, "k").Batch}
	}
	for _, kind := range []int{ledger.Retain, ledger.Compact} {
		for _, n := range []int{math.MinInt, -1, api.MaxNumber + 1, math.MaxInt} {
			list[fmt.Sprint("N ", n, " of kind ", kind)] = ledger.Entry{Kind: kind, N: n}
		}
		for name, b := range map[string]api.Batch{
			"Kind":     {Kind: api.Plain},
			"Producer": {Producer: -1},
			"Epoch":    {Epoch: 1},
			"Seq":      {Seq: 1},
			"InTxn":    {InTxn: true},
			"Records":  {Records: make([]api.Record, 1)},
			"batch":    out(1, 0, "k").Batch,
			"marker":   commit(1).Batch,
		} {
			list[fmt.Sprint("a Batch's ", name, " beside kind ", kind)] = ledger.Entry{Kind: kind, Batch: b}
		}
	}
	return list
}

// state is all that a ledger tells, with what it decides of many batches: its table can't be looked at.
type state struct {
	start, stable, end int
	rows               []ledger.Row
	open               []ledger.Txn
	aborted            []ledger.Gone
	decided            []decision
}

type decision struct {
	offset int
	done   bool
	e      api.Errno
}

// probes are of producers and epochs that the tests use.
func probes() []ledger.Entry {
	var list []ledger.Entry
	for _, id := range []int{0, 1, 2, 3, topProducer} {
		for _, epoch := range []int{0, 1, 2, 3} {
			list = append(list, at(epoch, commit(id)))
			for seq := range 6 {
				list = append(list, at(epoch, out(id, seq, "k")), at(epoch, in(id, seq, "k", "k")))
			}
		}
	}
	return list
}

func stateOf(l *ledger.Ledger) state {
	s := state{start: l.Start(), stable: l.Stable(), end: l.End()}
	s.rows = append(s.rows, l.Rows()...)
	s.open = append(s.open, l.Open()...)
	s.aborted = append(s.aborted, l.Aborted()...)
	for _, x := range probes() {
		offset, done, e := l.Decide(x)
		s.decided = append(s.decided, decision{offset, done, e})
	}
	return s
}

func checkState(t *testing.T, l *ledger.Ledger, want state) {
	t.Helper()
	if s := stateOf(l); !reflect.DeepEqual(s, want) {
		t.Errorf("the ledger is %v, not %v", s, want)
	}
}

func mustNew(t *testing.T) *ledger.Ledger {
	t.Helper()
	l := ledger.New()
	if l == nil {
		t.Fatal("New: nil")
	}
	return l
}

// made is a ledger that took all these entries.
func made(t *testing.T, list ...ledger.Entry) *ledger.Ledger {
	t.Helper()
	l := mustNew(t)
	for _, x := range list {
		mustTake(t, l, x)
	}
	return l
}

// mustTake applies an entry that is new.
func mustTake(t *testing.T, l *ledger.Ledger, x ledger.Entry) {
	t.Helper()
	want := 0
	if x.Kind == ledger.Batches {
		want = l.End()
	}
	if offset, done, e := l.Decide(x); offset != want || done || e != api.OK {
		t.Fatalf("Decide(%s): %d, %v, %d, not %d, false, 0", brief(x), offset, done, e, want)
	}
	if offset, e := l.Apply(x); offset != want || e != api.OK {
		t.Fatalf("Apply(%s): %d, %d, not %d, 0", brief(x), offset, e, want)
	}
}

// checkDone looks at an entry for which there is nothing to do.
func checkDone(t *testing.T, l *ledger.Ledger, x ledger.Entry, offset int) {
	t.Helper()
	was := stateOf(l)
	for range 2 {
		if n, done, e := l.Decide(x); n != offset || !done || e != api.OK {
			t.Errorf("Decide(%s): %d, %v, %d, not %d, true, 0", brief(x), n, done, e, offset)
		}
		if n, e := l.Apply(x); n != offset || e != api.OK {
			t.Errorf("Apply(%s): %d, %d, not %d, 0", brief(x), n, e, offset)
		}
	}
	checkState(t, l, was)
}

// checkRefused looks at an entry that is not taken.
func checkRefused(t *testing.T, l *ledger.Ledger, x ledger.Entry, want api.Errno) {
	t.Helper()
	was := stateOf(l)
	if n, done, e := l.Decide(x); n != 0 || done || e != want {
		t.Errorf("Decide(%s): %d, %v, %d, not %d", brief(x), n, done, e, want)
	}
	if n, e := l.Apply(x); n != 0 || e != want {
		t.Errorf("Apply(%s): %d, %d, not %d", brief(x), n, e, want)
	}
	checkState(t, l, was)
}

func checkEnds(t *testing.T, l *ledger.Ledger, start, stable, end int) {
	t.Helper()
	if l.Start() != start || l.Stable() != stable || l.End() != end {
		t.Errorf("Start, Stable, End: %d, %d, %d, not %d, %d, %d", l.Start(), l.Stable(), l.End(), start, stable, end)
	}
}

func offsets(rows []ledger.Row) []int {
	var list []int
	for _, r := range rows {
		list = append(list, r.Offset)
	}
	return list
}

func checkRows(t *testing.T, l *ledger.Ledger, want ...int) {
	t.Helper()
	if got := offsets(l.Rows()); !slices.Equal(got, want) {
		t.Errorf("Rows at %v, not at %v", got, want)
	}
}

func checkOpen(t *testing.T, l *ledger.Ledger, want ...ledger.Txn) {
	t.Helper()
	if got := l.Open(); !slices.Equal(got, want) {
		t.Errorf("Open: %v, not %v", got, want)
	}
}

func checkAborted(t *testing.T, l *ledger.Ledger, want ...ledger.Gone) {
	t.Helper()
	if got := l.Aborted(); !slices.Equal(got, want) {
		t.Errorf("Aborted: %v, not %v", got, want)
	}
}

// checkFetch looks at a Fetch that is OK: it tells rows of the ledger, at these offsets.
func checkFetch(t *testing.T, l *ledger.Ledger, from, most int, committed bool, next int, want ...int) {
	t.Helper()
	rows, n, e := l.Fetch(from, most, committed)
	if !slices.Equal(offsets(rows), want) || n != next || e != api.OK {
		t.Errorf("Fetch(%d, %d, %v): rows at %v, %d, %d, not at %v, %d, 0", from, most, committed, offsets(rows), n, e, want, next)
	}
	for _, r := range rows {
		if !slices.Contains(l.Rows(), r) {
			t.Errorf("Fetch(%d, %d, %v): %v is none of Rows", from, most, committed, r)
		}
	}
}

func checkNoFetch(t *testing.T, l *ledger.Ledger, from, most int, want api.Errno) {
	t.Helper()
	for _, committed := range []bool{false, true} {
		if rows, next, e := l.Fetch(from, most, committed); len(rows) != 0 || next != 0 || e != want {
			t.Errorf("Fetch(%d, %d, %v): %v, %d, %d, not %d", from, most, committed, rows, next, e, want)
		}
	}
}

// brief tells an entry without what its records say.
func brief(x ledger.Entry) string {
	b := x.Batch
	return fmt.Sprintf("{Kind %d, N %d, {Kind %d, Producer %d, Epoch %d, Seq %d, InTxn %v, %d Records}}", x.Kind, x.N, b.Kind, b.Producer, b.Epoch, b.Seq, b.InTxn, len(b.Records))
}

// same holds entries against each other; lists that are nil and empty mean the same.
func same(a, b ledger.Entry) bool {
	records := slices.Equal(a.Batch.Records, b.Batch.Records)
	a.Batch.Records, b.Batch.Records = nil, nil
	return records && reflect.DeepEqual(a, b)
}
