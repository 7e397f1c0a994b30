package producer_test

import (
	"math"
	"math/rand/v2"
	"testing"

	"gazette/api"
	"gazette/batch"
	"gazette/producer"
)

// plainMayLoad does what P1204 says of Load, word by word.
func plainMayLoad(l []producer.Entry) bool {
	for i, x := range l {
		if i > 0 && !(l[i-1].Producer < x.Producer) {
			return false
		}
		if x.Producer < 0 || x.Producer >= 1<<48 || x.Epoch < 0 || x.Epoch > 1<<31-1 || x.Next < 0 || x.Next > 1<<31 || len(x.Last) > 5 {
			return false
		}
		for k, d := range x.Last {
			if d.Len < 1 || d.Len > 64 || d.Offset < 0 || d.Offset > 1<<48 {
				return false
			}
			if d.Seq < 0 || d.Seq > 1<<31 {
				return false // so that no sum wraps round
			}
			follows := x.Next
			if k+1 < len(x.Last) {
				follows = x.Last[k+1].Seq
			}
			if d.Seq+d.Len != follows {
				return false
			}
		}
	}
	return true
}

// noted is a batch of records, or a marker, that a plain table has taken.
type noted struct {
	producer, epoch int
	marker          bool
	seq, length     int
	offset          int
}

// plain has all that was ever noted, and goes through it in each call.
type plain struct {
	all []noted
}

// of tells a producer's epoch, its next number, and all batches of that epoch.
func (p *plain) of(id int) (known bool, epoch, next int, list []noted) {
	for _, n := range p.all {
		if n.producer == id && n.epoch >= epoch {
			known, epoch = true, n.epoch
		}
	}
	for _, n := range p.all {
		if n.producer == id && n.epoch == epoch && !n.marker {
			next += n.length
			list = append(list, n)
		}
	}
	return known, epoch, next, list
}

func lastFive(list []noted) []noted { return list[max(0, len(list)-5):] }

func (p *plain) Decide(b api.Batch) (int, bool, api.Errno) {
	if e := batch.Check(b); e != api.OK {
		return 0, false, e
	}
	if b.Producer == -1 {
		return 0, false, api.OK
	}
	known, epoch, next, list := p.of(b.Producer)
	if b.Kind == api.Commit || b.Kind == api.Abort {
		if known && epoch > b.Epoch {
			return 0, false, api.ErrFence
		}
		return 0, false, api.OK
	}
	if !known {
		if b.Seq != 0 {
			return 0, false, api.ErrOrder
		}
		return 0, false, api.OK
	}
	if epoch > b.Epoch {
		return 0, false, api.ErrFence
	}
	if epoch < b.Epoch {
		if b.Seq != 0 {
			return 0, false, api.ErrOrder
		}
		return 0, false, api.OK
	}
	if b.Seq == next {
		return 0, false, api.OK
	}
	for _, n := range lastFive(list) {
		if n.seq == b.Seq && n.length == len(b.Records) {
			return n.offset, true, api.OK
		}
	}
	if b.Seq < next {
		return 0, false, api.ErrDup
	}
	return 0, false, api.ErrOrder
}

func (p *plain) Note(b api.Batch, offset int) api.Errno {
	if offset < 0 || offset > 1<<48 {
		return api.ErrArg
	}
	_, dup, e := p.Decide(b)
	if e != api.OK || dup || b.Producer == -1 {
		return e
	}
	p.all = append(p.all, noted{b.Producer, b.Epoch, b.Kind != api.Plain, b.Seq, len(b.Records), offset})
	return api.OK
}

func (p *plain) Entries(ids ...int) []producer.Entry {
	var l []producer.Entry
	for _, id := range ids {
		known, epoch, next, list := p.of(id)
		if !known {
			continue
		}
		x := entry(id, epoch, next)
		for _, n := range lastFive(list) {
			x.Last = append(x.Last, done(n.seq, n.length, n.offset))
		}
		l = append(l, x)
	}
	return l
}

// dice are what the tests choose by: the same ones in each run.
type dice struct{ *rand.Rand }

func diceOf(a, b uint64) dice { return dice{rand.New(rand.NewPCG(a, b))} }

func pick[T any](d dice, list ...T) T { return list[d.IntN(len(list))] }

// rarely is mostly n, and now and then another number.
func rarely(d dice, n int, others ...int) int {
	if d.IntN(25) > 0 {
		return n
	}
	return pick(d, others...)
}

// entries are mostly such as may be, at and beside each edge.
func (d dice) entries() []producer.Entry {
	var l []producer.Entry
	id := pick(d, -1, 0, 0, 1, 5)
	for range d.IntN(4) {
		l = append(l, d.entry(rarely(d, id, -1, 0, 1, topProducer, api.MaxNumber, math.MaxInt)))
		id += rarely(d, 1+d.IntN(3), -1, 0, topProducer-id)
	}
	return l
}

func (d dice) entry(id int) producer.Entry {
	x := entry(id, rarely(d, pick(d, 0, 3, topEpoch), -1, topEpoch+1, math.MaxInt), 0)
	seq := pick(d, 0, 0, 7, api.MaxSeq-64, api.MaxSeq-2, api.MaxSeq-1)
	for range rarely(d, d.IntN(api.Window+1), api.Window+1) {
		length := rarely(d, pick(d, 1, 2, api.MaxBatch), -1, 0, api.MaxBatch+1)
		x.Last = append(x.Last, done(rarely(d, seq, seq-1, seq+1, -1, 0, math.MaxInt), length, rarely(d, pick(d, 0, 7, api.MaxNumber), -1, api.MaxNumber+1)))
		seq += length
	}
	x.Next = rarely(d, seq, seq-1, seq+1, -1, 0, api.MaxSeq, api.MaxSeq+1)
	return x
}

// batch is one that a producer of p could send: mostly one that comes next, or comes again.
func (d dice) batch(p *plain, ids []int) api.Batch {
	id := pick(d, ids...)
	if d.IntN(12) == 0 {
		return of(-1, rarely(d, 0, 1), rarely(d, 0, 1), d.IntN(3))
	}
	_, epoch, next, list := p.of(id)
	epoch += pick(d, 0, 0, 0, 0, 0, 0, 0, 0, 0, -1, 1)
	if d.IntN(200) == 0 {
		epoch = pick(d, -1, 0, topEpoch, topEpoch+1)
	}
	switch d.IntN(8) {
	case 0:
		return marker(pick(d, api.Commit, api.Abort), id, epoch)
	case 1, 2, 3:
		if len(list) > 0 {
			again := list[d.IntN(len(list))]
			if d.IntN(2) == 0 {
				again = pick(d, list[max(0, len(list)-6):]...)
			}
			return of(id, epoch, again.seq, again.length+rarely(d, 0, -1, 1))
		}
	case 4:
		return of(id, epoch, pick(d, -1, 0, 1, next-1, next+1, next+64, api.MaxSeq-1, api.MaxSeq), d.IntN(5))
	}
	return of(id, epoch, next, rarely(d, 1+d.IntN(4), 0, api.MaxBatch, api.MaxBatch+1))
}

// TestAnyCallsByTheChaptersWords: each answer is that of a plain table, and of one that was loaded at each step.
func TestAnyCallsByTheChaptersWords(t *testing.T) {
	seen := map[api.Errno]int{}
	dups := 0
	for seed := range uint64(150) {
		d := diceOf(seed, 12)
		ids := []int{0, 1, 2, topProducer}[:1+d.IntN(4)]
		x, p := mustNew(t), &plain{}
		for step := range 200 {
			b := d.batch(p, ids)
			n, dup, e := x.Decide(b)
			if wantN, wantDup, wantE := p.Decide(b); n != wantN || dup != wantDup || e != wantE {
				t.Fatalf("seed %d, step %d: Decide(%s): %d, %v, %d, not %d, %v, %d", seed, step, brief(b), n, dup, e, wantN, wantDup, wantE)
			}
			seen[e]++
			if dup {
				dups++
			}
			if d.IntN(4) == 0 {
				x = mustLoad(t, x.Entries()...)
			}
			offset := rarely(d, d.IntN(1000), -1, 0, api.MaxNumber, api.MaxNumber+1)
			if e, want := x.Note(b, offset), p.Note(b, offset); e != want {
				t.Fatalf("seed %d, step %d: Note(%s, %d): %d, not %d", seed, step, brief(b), offset, e, want)
			}
			if l, want := x.Entries(), p.Entries(ids...); !same(l, want) {
				t.Fatalf("seed %d, step %d: behind Note(%s, %d): %v, not %v", seed, step, brief(b), offset, l, want)
			}
		}
	}
	for _, e := range []api.Errno{api.OK, api.ErrArg, api.ErrSize, api.ErrOver, api.ErrFence, api.ErrOrder, api.ErrDup} {
		if seen[e] < 20 {
			t.Errorf("the answer %d came %d times", e, seen[e])
		}
	}
	if dups < 1000 {
		t.Errorf("%d duplicates", dups)
	}
}
