package ledger_test

import (
	"cmp"
	"math"
	"math/rand/v2"
	"slices"
	"testing"

	"gazette/api"
	"gazette/batch"
	"gazette/ledger"
	"gazette/producer"
)

// taken is a batch that a plain ledger took, at its offset.
type taken struct {
	offset int
	b      api.Batch
}

func (x taken) isMarker() bool { return x.b.Kind == api.Commit || x.b.Kind == api.Abort }

// plain has all batches that were ever taken, and which offsets fell away, and works everything out of that in each call.
type plain struct {
	batches []taken
	start   int
	fallen  map[int]bool
}

func newPlain() *plain { return &plain{fallen: map[int]bool{}} }

func (p *plain) end() int {
	if len(p.batches) == 0 {
		return 0
	}
	last := p.batches[len(p.batches)-1]
	return last.offset + batch.Len(last.b)
}

// ending is the first marker of a producer behind an offset.
func (p *plain) ending(producer, offset int) (taken, bool) {
	for _, x := range p.batches {
		if x.isMarker() && x.b.Producer == producer && x.offset > offset {
			return x, true
		}
	}
	return taken{}, false
}

func (p *plain) isOpen(r ledger.Row) bool {
	_, ended := p.ending(r.Producer, r.Offset)
	return r.InTxn && !ended
}

func (p *plain) isAborted(r ledger.Row) bool {
	m, ended := p.ending(r.Producer, r.Offset)
	return r.InTxn && ended && m.b.Kind == api.Abort
}

// ever has all rows that were ever there.
func (p *plain) ever() []ledger.Row {
	var rows []ledger.Row
	for _, x := range p.batches {
		for i, r := range x.b.Records {
			rows = append(rows, ledger.Row{Offset: x.offset + i, Producer: x.b.Producer, InTxn: x.b.InTxn, Record: r})
		}
	}
	return rows
}

func (p *plain) rows() []ledger.Row {
	return slices.DeleteFunc(p.ever(), func(r ledger.Row) bool { return p.fallen[r.Offset] })
}

func (p *plain) open() []ledger.Txn {
	var list []ledger.Txn
	for _, r := range p.ever() {
		first := !slices.ContainsFunc(list, func(t ledger.Txn) bool { return t.Producer == r.Producer })
		if p.isOpen(r) && first {
			list = append(list, ledger.Txn{Producer: r.Producer, First: r.Offset})
		}
	}
	return list
}

func (p *plain) aborted() []ledger.Gone {
	var list []ledger.Gone
	for _, r := range p.ever() {
		m, _ := p.ending(r.Producer, r.Offset)
		first := !slices.ContainsFunc(list, func(g ledger.Gone) bool { return g.Last == m.offset })
		if p.isAborted(r) && first && m.offset >= p.start {
			list = append(list, ledger.Gone{Producer: r.Producer, First: r.Offset, Last: m.offset})
		}
	}
	slices.SortFunc(list, func(a, b ledger.Gone) int { return cmp.Compare(a.Last, b.Last) })
	return list
}

func (p *plain) stable() int {
	for _, r := range p.ever() {
		if p.isOpen(r) {
			return r.Offset
		}
	}
	return p.end()
}

// falling has the offsets that fall away by a Compact.
func (p *plain) falling(n int) []int {
	var list []int
	rows := p.rows()
	for i, r := range rows {
		later := slices.ContainsFunc(rows[i+1:], func(x ledger.Row) bool {
			return x.Offset < n && x.Record.Key == r.Record.Key && !p.isAborted(x)
		})
		if r.Offset < n && (p.isAborted(r) || later) {
			list = append(list, r.Offset)
		}
	}
	return list
}

func (p *plain) Decide(x ledger.Entry) (int, bool, api.Errno) {
	switch b := x.Batch; x.Kind {
	case ledger.Batches:
		if x.N != 0 || batch.Check(b) != api.OK {
			return 0, false, api.ErrArg
		}
		return p.decideBatch(b)
	case ledger.Retain, ledger.Compact:
		if x.N < 0 || x.N > 1<<48 || !same(ledger.Entry{Batch: b}, ledger.Entry{}) {
			return 0, false, api.ErrArg
		}
		if x.N > p.stable() {
			return 0, false, api.ErrRange
		}
		if x.Kind == ledger.Retain {
			return 0, x.N <= p.start, api.OK
		}
		return 0, len(p.falling(x.N)) == 0, api.OK
	}
	return 0, false, api.ErrArg
}

func (p *plain) decideBatch(b api.Batch) (int, bool, api.Errno) {
	table := producer.New()
	known := map[int]int{}
	for _, x := range p.batches {
		table.Note(x.b, x.offset)
		known[x.b.Producer] = x.b.Epoch
	}
	if offset, dup, e := table.Decide(b); dup || e != api.OK {
		return offset, dup, e
	}
	open := slices.ContainsFunc(p.open(), func(t ledger.Txn) bool { return t.Producer == b.Producer })
	epoch, is := known[b.Producer]
	if b.Kind != api.Plain && !open && is && epoch == b.Epoch {
		return -1, true, api.OK
	}
	if b.Kind == api.Plain && open && !b.InTxn {
		return 0, false, api.ErrState
	}
	return p.end(), false, api.OK
}

func (p *plain) Apply(x ledger.Entry) (int, api.Errno) {
	offset, done, e := p.Decide(x)
	if e != api.OK || done {
		return offset, e
	}
	switch x.Kind {
	case ledger.Batches:
		p.batches = append(p.batches, taken{offset, x.Batch})
	case ledger.Retain:
		p.start = x.N
		for o := range x.N {
			p.fallen[o] = true
		}
	case ledger.Compact:
		for _, o := range p.falling(x.N) {
			p.fallen[o] = true
		}
	}
	return offset, api.OK
}

func (p *plain) Fetch(from, most int, committed bool) ([]ledger.Row, int, api.Errno) {
	if from < 0 || most < 0 {
		return nil, 0, api.ErrArg
	}
	if from < p.start {
		return nil, 0, api.ErrTrim
	}
	if from > p.end() {
		return nil, 0, api.ErrRange
	}
	var rows []ledger.Row
	stable := p.stable()
	for _, r := range p.rows() {
		if r.Offset >= from && (!committed || r.Offset < stable && !p.isAborted(r)) {
			rows = append(rows, r)
		}
	}
	rows = rows[:min(len(rows), most)]
	next := p.end()
	if committed {
		next = stable
	}
	if len(rows) == most {
		next = from
		if most > 0 {
			next = rows[most-1].Offset + 1
		}
	}
	return rows, max(next, from), api.OK
}

// dice are what the tests choose by: the same ones in each run.
type dice struct{ *rand.Rand }

func diceOf(a, b uint64) dice { return dice{rand.New(rand.NewPCG(a, b))} }

func pick[T any](d dice, list ...T) T { return list[d.IntN(len(list))] }

// rarely is mostly n, and now and then another number.
func rarely(d dice, n int, others ...int) int {
	if d.IntN(25) > 0 {
		return n
	}
	return pick(d, others...)
}

func (d dice) keys() []string {
	keys := make([]string, 1+d.IntN(3))
	for i := range keys {
		keys[i] = pick(d, "a", "b", "c", "!a", "!b", "")
	}
	return keys
}

// entry is one that could come to p: mostly one that is taken.
func (d dice) entry(p *plain, ids []int) ledger.Entry {
	switch d.IntN(20) {
	case 0:
		return nobodys(d.keys()...)
	case 1:
		return retain(rarely(d, p.start+d.IntN(3), -1, 0, p.stable(), p.stable()+1, p.end(), api.MaxNumber, api.MaxNumber+1))
	case 2:
		return compact(rarely(d, d.IntN(p.stable()+1), -1, 0, p.stable(), p.stable()+1, p.end(), api.MaxNumber, api.MaxNumber+1))
	case 3:
		if len(p.batches) > 0 { // again, of those that were taken lately
			x := entry(pick(d, p.batches[max(0, len(p.batches)-12):]...).b)
			x.N = rarely(d, 0, 1)
			return x
		}
	case 4:
		if d.IntN(8) == 0 {
			return ledger.Entry{Kind: pick(d, -1, 0, 4, 16), N: d.IntN(3)}
		}
	}
	return d.batch(p, pick(d, ids...))
}

// batch is one of the producer's: mostly one that comes next.
func (d dice) batch(p *plain, id int) ledger.Entry {
	epoch, next := 0, 0
	for _, x := range p.batches {
		if x.b.Producer != id {
			continue
		}
		if x.b.Epoch > epoch {
			epoch, next = x.b.Epoch, 0
		}
		next += len(x.b.Records)
	}
	open := slices.ContainsFunc(p.open(), func(t ledger.Txn) bool { return t.Producer == id })
	if d.IntN(30) == 0 {
		epoch, next = epoch+1, 0
	}
	epoch = rarely(d, epoch, -1, 0, epoch-1)
	next = rarely(d, next, -1, 0, next+1, next-1)
	if open && d.IntN(4) == 0 || d.IntN(25) == 0 {
		return at(epoch, marker(pick(d, api.Commit, api.Abort, api.Abort), id))
	}
	x := at(epoch, out(id, next, d.keys()...))
	x.Batch.InTxn = open != (d.IntN(12) == 0) || d.IntN(3) == 0
	return x
}

// step is one entry, looked at, applied, and looked at again, by both.
func step(t *testing.T, l *ledger.Ledger, p *plain, x ledger.Entry) (done bool, e api.Errno) {
	t.Helper()
	n, done, e := l.Decide(x)
	if wantN, wantDone, wantE := p.Decide(x); n != wantN || done != wantDone || e != wantE {
		t.Fatalf("Decide(%s): %d, %v, %d, not %d, %v, %d", brief(x), n, done, e, wantN, wantDone, wantE)
	}
	n, e = l.Apply(x)
	if wantN, wantE := p.Apply(x); n != wantN || e != wantE {
		t.Fatalf("Apply(%s): %d, %d, not %d, %d", brief(x), n, e, wantN, wantE)
	}
	if l.Start() != p.start || l.Stable() != p.stable() || l.End() != p.end() {
		t.Fatalf("behind %s: %d, %d, %d, not %d, %d, %d", brief(x), l.Start(), l.Stable(), l.End(), p.start, p.stable(), p.end())
	}
	if !slices.Equal(l.Rows(), p.rows()) || !slices.Equal(l.Open(), p.open()) || !slices.Equal(l.Aborted(), p.aborted()) {
		t.Fatalf("behind %s: %v, %v, %v, not %v, %v, %v", brief(x), l.Rows(), l.Open(), l.Aborted(), p.rows(), p.open(), p.aborted())
	}
	return done, e
}

func checkAnyFetch(t *testing.T, d dice, l *ledger.Ledger, p *plain) {
	t.Helper()
	for _, committed := range []bool{false, true} {
		from := rarely(d, p.start+d.IntN(p.end()-p.start+1), -1, 0, p.start-1, p.start, p.stable(), p.end(), p.end()+1, math.MaxInt)
		most := pick(d, -1, 0, 1, 2, 3, 5, 8, all, all, all)
		rows, next, e := l.Fetch(from, most, committed)
		wantRows, wantNext, wantE := p.Fetch(from, most, committed)
		if !slices.Equal(rows, wantRows) || next != wantNext || e != wantE {
			t.Fatalf("Fetch(%d, %d, %v): %v, %d, %d, not %v, %d, %d", from, most, committed, rows, next, e, wantRows, wantNext, wantE)
		}
	}
}

// TestAnyCallsByTheChaptersWords: each answer is that of a plain ledger.
func TestAnyCallsByTheChaptersWords(t *testing.T) {
	seen := map[api.Errno]int{}
	dones := map[int]int{}
	for seed := range uint64(60) {
		d := diceOf(seed, 13)
		ids := []int{0, 1, 2, topProducer}[:1+d.IntN(4)]
		l, p := mustNew(t), newPlain()
		for range 100 {
			x := d.entry(p, ids)
			done, e := step(t, l, p, x)
			seen[e]++
			if done {
				dones[x.Kind]++
			}
			checkAnyFetch(t, d, l, p)
		}
	}
	for _, e := range []api.Errno{api.OK, api.ErrArg, api.ErrRange, api.ErrFence, api.ErrOrder, api.ErrDup, api.ErrState} {
		if seen[e] < 20 {
			t.Errorf("the answer %d came %d times", e, seen[e])
		}
	}
	for _, kind := range []int{ledger.Batches, ledger.Retain, ledger.Compact} {
		if dones[kind] < 20 {
			t.Errorf("of the kind %d %d were done", kind, dones[kind])
		}
	}
}
