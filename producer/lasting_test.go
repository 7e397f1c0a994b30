package producer_test

import (
	"slices"
	"testing"

	"gazette/api"
	"gazette/producer"
)

// whose is a producer's epoch.
type whose struct{ producer, epoch int }

// story is what a caller knows who notes just what Decide says OK to, and not duplicate.
type story struct {
	table   *producer.Table
	numbers map[whose][]int       // each record's number, in the order in which they were noted
	batches map[whose][]api.Batch // as they were noted
	offsets map[whose][]int       // of the batches
	highest map[int]int           // the highest epoch that was noted of a producer
	end     int
}

func newStory(t *testing.T) *story {
	return &story{mustNew(t), map[whose][]int{}, map[whose][]api.Batch{}, map[whose][]int{}, map[int]int{}, 0}
}

// send decides, and notes; what was taken it writes down.
func (s *story) send(t *testing.T, b api.Batch) {
	t.Helper()
	_, dup, e := s.table.Decide(b)
	if e != api.OK || dup || b.Producer == -1 {
		return
	}
	if highest, known := s.highest[b.Producer]; known && b.Epoch < highest {
		t.Fatalf("Decide(%s): OK, and %d was noted", brief(b), highest)
	}
	mustNote(t, s.table, b, s.end)
	s.highest[b.Producer] = b.Epoch
	if b.Kind == api.Plain {
		w := whose{b.Producer, b.Epoch}
		for i := range b.Records {
			s.numbers[w] = append(s.numbers[w], b.Seq+i)
		}
		s.batches[w] = append(s.batches[w], b)
		s.offsets[w] = append(s.offsets[w], s.end)
	}
	s.end += max(1, len(b.Records))
}

// P1205

func (s *story) checkOnce(t *testing.T) {
	t.Helper()
	for w, numbers := range s.numbers {
		for i, n := range numbers {
			if n != i {
				t.Fatalf("%v: the number %d stands at the place %d: %v", w, n, i, numbers)
			}
		}
	}
}

// P1206, P1207

func (s *story) checkAgain(t *testing.T) {
	t.Helper()
	for w, list := range s.batches {
		for i, b := range list {
			switch {
			case w.epoch < s.highest[w.producer]:
				checkRefused(t, s.table, b, api.ErrFence)
			case i >= len(list)-api.Window:
				checkDup(t, s.table, b, s.offsets[w][i])
			default:
				checkRefused(t, s.table, b, api.ErrDup)
			}
		}
	}
}

func (s *story) checkOver(t *testing.T) {
	t.Helper()
	for id, highest := range s.highest {
		for epoch := range highest {
			for seq := range 8 {
				checkRefused(t, s.table, of(id, epoch, seq, 1+seq%3), api.ErrFence)
			}
			for _, b := range bothMarkers(id, epoch) {
				checkRefused(t, s.table, b, api.ErrFence)
			}
		}
	}
}

// P1208

func (s *story) checkThereAndBack(t *testing.T, d dice) {
	t.Helper()
	l := s.table.Entries()
	back := mustLoad(t, l...)
	checkEntries(t, back, l...)
	for id := range 4 {
		for range 60 {
			b := of(id, d.IntN(6), d.IntN(40), 1+d.IntN(3))
			if d.IntN(8) == 0 {
				b = marker(api.Abort, id, b.Epoch)
			}
			n, dup, e := s.table.Decide(b)
			checkDecide(t, back, b, n, dup, e)
		}
	}
	s.table = back // the story goes on with it
}

// TestStories: callers who do not know what was taken, and send again, ahead, and from the beginning.
func TestStories(t *testing.T) {
	for seed := range uint64(60) {
		d := diceOf(seed, 5)
		s := newStory(t)
		for range 3 {
			for range 80 {
				id := d.IntN(3)
				epoch := s.highest[id] + rarely(d, 0, 1, 1, 2, -1)
				seq := max(0, len(s.numbers[whose{id, epoch}])+pick(d, 0, 0, 0, 1, -1, -2, -3))
				b := of(id, max(0, epoch), seq, 1+d.IntN(3))
				if d.IntN(40) == 0 {
					b = marker(pick(d, api.Commit, api.Abort), id, b.Epoch)
				}
				s.send(t, b)
			}
			s.checkOnce(t)
			s.checkAgain(t)
			s.checkOver(t)
			s.checkThereAndBack(t, d)
		}
	}
}

// TestSentUntilItIsThere: whoever sends each batch several times, and an older one between, has each number once.
func TestSentUntilItIsThere(t *testing.T) {
	s := newStory(t)
	var sent []api.Batch
	for i := range 40 {
		b := of(1, 0, 2*i, 2)
		sent = append(sent, b)
		for range 3 {
			s.send(t, b)
			s.send(t, sent[i/2])
			s.send(t, of(1, 0, 2*i+4, 2)) // one that came too early
		}
		if _, dup, e := s.table.Decide(b); !dup || e != api.OK {
			t.Fatalf("Decide(%s): %v, %d", brief(b), dup, e)
		}
	}
	s.checkOnce(t)
	s.checkAgain(t)
	if n := len(s.numbers[whose{1, 0}]); n != 80 {
		t.Errorf("%d numbers", n)
	}
}

// TestTheSameWhateverTheOrder: producers do not touch one another, in whichever order their batches come.
func TestTheSameWhateverTheOrder(t *testing.T) {
	d := diceOf(7, 7)
	var want []producer.Entry
	for range 30 {
		x := mustNew(t)
		left := []int{9, 9, 9, 9, 9}
		for slices.Max(left) > 0 {
			id := d.IntN(len(left))
			if left[id] == 0 {
				continue
			}
			left[id]--
			seq := 8 - left[id]
			mustNote(t, x, of(id, id, seq, 1), 10*id+seq)
		}
		if want == nil {
			want = x.Entries()
		}
		checkEntries(t, x, want...)
	}
}
