package ledger_test

import (
	"slices"
	"testing"

	"gazette/api"
	"gazette/ledger"
)

// story is what a caller knows who applies entries one behind the other.
type story struct {
	l      *ledger.Ledger
	p      *plain // chooses what comes next
	sent   []ledger.Entry
	took   []ledger.Entry
	seen   map[int]ledger.Row // each row, at its offset, as its batch said
	fate   map[int]int        // of rows in transactions that are decided: the marker's Kind
	waits  map[int][]int      // of a producer: the rows of its open transaction
	lowest int                // what was retained
}

func newStory(t *testing.T) *story {
	return &story{l: mustNew(t), p: newPlain(), seen: map[int]ledger.Row{}, fate: map[int]int{}, waits: map[int][]int{}}
}

// P1308

// send applies x; what was taken it writes down.
func (s *story) send(t *testing.T, x ledger.Entry) {
	t.Helper()
	end := s.l.End()
	_, done, _ := s.l.Decide(x)
	offset, e := s.l.Apply(x)
	s.p.Apply(x)
	s.sent = append(s.sent, x)
	if e != api.OK || done {
		if s.l.End() != end {
			t.Fatalf("Apply(%s): the end went on", brief(x))
		}
		return
	}
	s.took = append(s.took, x)
	if x.Kind == ledger.Retain {
		s.lowest = x.N
	}
	if x.Kind != ledger.Batches {
		return
	}
	if offset != end {
		t.Fatalf("Apply(%s): %d, and the end was %d", brief(x), offset, end)
	}
	b := x.Batch
	for i, r := range b.Records {
		s.seen[offset+i] = ledger.Row{Offset: offset + i, Producer: b.Producer, InTxn: b.InTxn, Record: r}
		if b.InTxn {
			s.waits[b.Producer] = append(s.waits[b.Producer], offset+i)
		}
	}
	if b.Kind != api.Plain {
		for _, o := range s.waits[b.Producer] {
			s.fate[o] = b.Kind
		}
		delete(s.waits, b.Producer)
	}
}

// checkOffsets looks that each row that is there is read at its offset, as it was written.
func (s *story) checkOffsets(t *testing.T) {
	t.Helper()
	for _, r := range s.l.Rows() {
		if r != s.seen[r.Offset] {
			t.Fatalf("%v was %v", r, s.seen[r.Offset])
		}
		rows, next, e := s.l.Fetch(r.Offset, 1, false)
		if e != api.OK || next != r.Offset+1 || !slices.Equal(rows, []ledger.Row{r}) {
			t.Fatalf("Fetch(%d, 1): %v, %d, %d, not %v", r.Offset, rows, next, e, r)
		}
	}
}

// P1309

func (s *story) checkCommitted(t *testing.T) {
	t.Helper()
	var want []ledger.Row
	for _, r := range s.l.Rows() {
		if r.Offset < s.l.Stable() && (!r.InTxn || s.fate[r.Offset] == api.Commit) {
			want = append(want, r)
		}
	}
	rows, next, e := s.l.Fetch(s.l.Start(), all, true)
	if !slices.Equal(rows, want) || next != s.l.Stable() || e != api.OK {
		t.Fatalf("Fetch of all that is committed: %v, %d, %d, not %v", rows, next, e, want)
	}
	for _, list := range s.waits {
		if s.l.Stable() > list[0] {
			t.Fatalf("Stable is %d, and %d is not decided", s.l.Stable(), list[0])
		}
	}
}

// P1310

// checkCompacted looks at a Compact of n: what was there is handed in.
func (s *story) checkCompacted(t *testing.T, was []ledger.Row, n int) {
	t.Helper()
	left := s.l.Rows()
	for _, r := range left {
		if !slices.Contains(was, r) {
			t.Fatalf("behind Compact(%d) there is %v", n, r)
		}
	}
	latest := map[string]ledger.Row{}
	for _, r := range was {
		if r.Offset >= n {
			if !slices.Contains(left, r) {
				t.Fatalf("Compact(%d) took %v", n, r)
			}
		} else if !r.InTxn || s.fate[r.Offset] == api.Commit {
			latest[r.Record.Key] = r
		}
	}
	below := 0
	for _, r := range latest {
		if !slices.Contains(left, r) {
			t.Fatalf("Compact(%d) took the latest one of its key: %v", n, r)
		}
		below++
	}
	if len(left) != below+len(was)-countBelow(was, n) {
		t.Fatalf("Compact(%d) left more than the latest ones: %v", n, left)
	}
}

func countBelow(rows []ledger.Row, n int) int {
	return len(slices.DeleteFunc(slices.Clone(rows), func(r ledger.Row) bool { return r.Offset >= n }))
}

// P1311

func replayed(list []ledger.Entry) *ledger.Ledger {
	l := ledger.New()
	for _, x := range list {
		l.Apply(x)
	}
	return l
}

func (s *story) checkReplayed(t *testing.T) {
	t.Helper()
	want := stateOf(s.l)
	checkState(t, replayed(s.took), want)
	checkState(t, replayed(s.sent), want) // what was refused, or done, changes nothing
	var bytes []ledger.Entry
	for _, x := range s.took {
		got, e := ledger.GetEntry(mustPut(t, x))
		if e != api.OK {
			t.Fatalf("GetEntry of %s: %d", brief(x), e)
		}
		bytes = append(bytes, got)
	}
	checkState(t, replayed(bytes), want)
}

func TestStories(t *testing.T) {
	compacted := 0
	for seed := range uint64(60) {
		d := diceOf(seed, 8)
		s := newStory(t)
		for i := range 150 {
			was := s.l.Rows()
			x := d.entry(s.p, []int{0, 1, 2})
			before := len(s.took)
			s.send(t, x)
			if x.Kind == ledger.Compact && len(s.took) > before {
				s.checkCompacted(t, was, x.N)
				compacted++
			}
			if s.l.Start() != s.lowest {
				t.Fatalf("Start is %d, not %d", s.l.Start(), s.lowest)
			}
			s.checkCommitted(t)
			if i%10 == 9 {
				s.checkOffsets(t)
			}
		}
		s.checkReplayed(t)
	}
	if compacted < 60 {
		t.Errorf("%d were compacted", compacted)
	}
}

// TestStableNeverFalls, nor does the start, nor the end: what was read as committed is decided for ever.
func TestStableNeverFalls(t *testing.T) {
	for seed := range uint64(40) {
		d := diceOf(seed, 9)
		s := newStory(t)
		committed := map[int]ledger.Row{}
		start, stable, end := 0, 0, 0
		for range 120 {
			s.send(t, d.entry(s.p, []int{0, 1, 2}))
			if s.l.Start() < start || s.l.Stable() < stable || s.l.End() < end || s.l.Start() > s.l.Stable() || s.l.Stable() > s.l.End() {
				t.Fatalf("seed %d: %d, %d, %d behind %d, %d, %d", seed, s.l.Start(), s.l.Stable(), s.l.End(), start, stable, end)
			}
			rows, _, _ := s.l.Fetch(s.l.Start(), all, true)
			for _, r := range rows {
				if _, known := committed[r.Offset]; !known && r.Offset < stable {
					t.Fatalf("seed %d: %v is there now, and %d was stable", seed, r, stable)
				}
				committed[r.Offset] = r
			}
			start, stable, end = s.l.Start(), s.l.Stable(), s.l.End()
		}
	}
}

// TestTheSameEntriesAgain: of producers nothing is there twice, however often it is applied.
func TestTheSameEntriesAgain(t *testing.T) {
	list := []ledger.Entry{
		out(0, 0, "a", "b"), in(1, 0, "c"), in(2, 0, "a"), in(1, 1, "b", "b"), abort(1), out(1, 3, "d"), commit(2), at(1, commit(3)), out(0, 2, "a"),
		compact(9), retain(2), in(2, 1, "e"), abort(2),
	}
	l := made(t, list...)
	was := stateOf(l)
	for range 3 {
		for _, x := range list {
			if _, done, e := l.Decide(x); !done || e != api.OK {
				t.Errorf("Decide(%s): %v, %d", brief(x), done, e)
			}
			l.Apply(x)
		}
		checkState(t, l, was)
	}
	checkState(t, replayed(list), was)
	checkState(t, replayed(append(slices.Clone(list), list...)), was)
}

// TestReplayedUpToAnyEntry: a ledger that goes on from there is the same as one that never stopped.
func TestReplayedUpToAnyEntry(t *testing.T) {
	d := diceOf(13, 11)
	s := newStory(t)
	for range 60 {
		s.send(t, d.entry(s.p, []int{0, 1}))
	}
	want := stateOf(s.l)
	for n := range s.took {
		l := replayed(s.took[:n])
		for _, x := range s.took[n:] {
			mustTake(t, l, x)
		}
		checkState(t, l, want)
	}
}
