package txn_test

import (
	"slices"
	"sync"
	"testing"

	"gazette/api"
	"gazette/txn"
)

// story is what a caller knows who applies events one behind the other.
type story struct {
	b      *txn.Book
	p      *plain // chooses what comes next
	sent   []txn.Event
	took   []txn.Event
	wrote  map[int]map[int]int // by producers: the places of its transaction, with 1, if they are still to be marked
	how    map[int]int         // by producers: how its transaction was decided
	epochs map[int]int         // by producers: the last ones that were told
}

func newStory(t *testing.T) *story {
	return &story{b: mustNew(t), p: &plain{}, wrote: map[int]map[int]int{}, how: map[int]int{}, epochs: map[int]int{}}
}

// send applies x; what was taken it writes down.
func (s *story) send(t *testing.T, x txn.Event) (counted bool) {
	t.Helper()
	done, e := s.b.Decide(x)
	if again := s.b.Apply(x); again != e {
		t.Fatalf("Apply(%s): %d, and Decide: %d", brief(x), again, e)
	}
	s.p.Apply(x)
	s.sent = append(s.sent, x)
	counted = e == api.OK && !done
	if counted {
		s.took = append(s.took, x)
	}
	return counted
}

// note keeps the places of x, if it is an Add or a Marked that counted.
func (s *story) note(x txn.Event) {
	switch x.Kind {
	case txn.Add:
		if s.wrote[x.Producer] == nil {
			s.wrote[x.Producer] = map[int]int{}
		}
		s.wrote[x.Producer][x.Place] = 1
	case txn.Marked:
		s.wrote[x.Producer][x.Place] = 0
	}
}

// P1606

// checkOnce looks that a producer's transaction stays what it was decided to be, until it is Empty.
func (s *story) checkOnce(t *testing.T, x txn.Event, producer, status int) {
	t.Helper()
	switch was := s.how[producer]; {
	case status == txn.Empty:
		delete(s.how, producer)
	case was != txn.Empty && status != was:
		t.Fatalf("%s: the producer %d was decided: %d; now %d", brief(x), producer, was, status)
	case status != txn.Open:
		s.how[producer] = status
	}
}

// P1607

// checkFenced looks that epochs don't fall, and that nothing of an elder one is taken.
func (s *story) checkFenced(t *testing.T, x txn.Event, producer, epoch int) {
	t.Helper()
	if epoch < s.epochs[producer] {
		t.Fatalf("%s: the epoch of %d is %d behind %d", brief(x), producer, epoch, s.epochs[producer])
	}
	s.epochs[producer] = epoch
	for elder := range epoch {
		for _, y := range []txn.Event{add(producer, elder, 1, 0), yes(producer, elder), no(producer, elder), marked(producer, elder, 1)} {
			if done, e := s.b.Decide(y); done || e != api.ErrFence {
				t.Fatalf("Decide(%s): %v, %d; the epoch is %d", brief(y), done, e, epoch)
			}
		}
	}
}

// P1608

// checkAllMarked looks that a producer is Empty just when each of its places was marked.
func (s *story) checkAllMarked(t *testing.T, x txn.Event, producer, status int) {
	t.Helper()
	var left []int
	for place, n := range s.wrote[producer] {
		if n > 0 {
			left = append(left, place)
		}
	}
	slices.Sort(left)
	if (status == txn.Empty) != (len(left) == 0) || !slices.Equal(s.b.Places(producer), left) {
		t.Fatalf("%s: the producer %d: %d, its places are %v, not %v", brief(x), producer, status, s.b.Places(producer), left)
	}
}

func (s *story) check(t *testing.T, x txn.Event) {
	t.Helper()
	for producer := range s.p.names() {
		status, epoch, _ := s.b.Status(producer)
		s.checkOnce(t, x, producer, status)
		s.checkFenced(t, x, producer, epoch)
		s.checkAllMarked(t, x, producer, status)
	}
}

func TestStories(t *testing.T) {
	for seed := range uint64(150) {
		d := diceOf(seed, 7)
		s := newStory(t)
		crew := names(1 + d.IntN(5))
		for range 150 {
			x := d.event(s.p, crew)
			if s.send(t, x) {
				s.note(x)
			}
			s.check(t, x)
		}
		s.checkReplayed(t)
	}
}

// TestAllIsDecidedAndMarkedInTheEnd: whoever does what Todo tells, and lets time go by, leaves nothing.
func TestAllIsDecidedAndMarkedInTheEnd(t *testing.T) {
	for seed := range uint64(50) {
		d := diceOf(seed, 8)
		s := newStory(t)
		for range 80 {
			s.send(t, d.event(s.p, names(6)))
		}
		s.b.Apply(expire(topNumber))
		for _, x := range s.b.Todo() {
			status, epoch, _ := s.b.Status(x.Producer)
			if epoch != x.Epoch || (status == txn.Committing) != x.Yes {
				t.Fatalf("%v of the status %d, the epoch %d", x, status, epoch)
			}
			mustTake(t, s.b, marked(x.Producer, x.Epoch, x.Place))
		}
		for producer, name := range s.p.names() {
			status, epoch, _ := s.b.Status(producer)
			if status == txn.Open { // it began too late to be over
				continue
			}
			checkProducer(t, s.b, producer, txn.Empty, epoch)
			mustTake(t, s.b, start(name, 1, 0))
		}
	}
}

// P1609

// bytesOf tells an event as bytes, and reads it again.
func bytesOf(t *testing.T, x txn.Event) txn.Event {
	t.Helper()
	got, e := txn.GetEvent(mustPut(t, x))
	if e != api.OK {
		t.Fatalf("GetEvent of %s: %d", brief(x), e)
	}
	return got
}

// checkSame looks that both tell the same, now and while time goes by: so timeouts, and since when one is Open, show, too.
func checkSame(t *testing.T, b, c *txn.Book) {
	t.Helper()
	for now := range 200 {
		if done, _ := b.Decide(expire(now)); !done || now == 0 {
			checkState(t, c, stateOf(b))
		}
		b.Apply(expire(now))
		c.Apply(expire(now))
	}
	checkState(t, c, stateOf(b))
}

func (s *story) checkReplayed(t *testing.T) {
	t.Helper()
	b, c := mustNew(t), mustNew(t)
	for _, x := range s.took {
		mustTake(t, b, bytesOf(t, x))
	}
	for _, x := range s.sent { // what was refused, or done, changes nothing
		c.Apply(x)
	}
	checkState(t, b, stateOf(s.b))
	checkSame(t, b, c)
}

// TestReplayedUpToAnyEvent: a book that goes on from there is the same as one that never stopped, and answers the same.
func TestReplayedUpToAnyEvent(t *testing.T) {
	d := diceOf(16, 11)
	s := newStory(t)
	for range 300 {
		s.send(t, d.event(s.p, names(4)))
	}
	want := stateOf(s.b)
	if len(s.took) < 70 {
		t.Fatalf("only %d counted", len(s.took))
	}
	for n := range s.took {
		b := mustNew(t)
		for _, x := range s.took[:n] {
			mustTake(t, b, bytesOf(t, x))
		}
		mustTake(t, b, s.took[n:]...)
		checkState(t, b, want)
	}
}

// TestReplayedEachTimeTheSame: nothing hangs on the order in which a map is gone through.
func TestReplayedEachTimeTheSame(t *testing.T) {
	var list []txn.Event
	for i, name := range names(hundred) {
		list = append(list, start(name, 1+i%9, 0), add(i, 0, i%7, i%5), add(i, 0, i%11, i%5))
	}
	list = append(list, yes(3, 0), no(7, 0), expire(6), yes(17, 0), expire(8), marked(3, 0, 3))
	want := made(t)
	for _, x := range list {
		want.Apply(x)
	}
	told := stateOf(want)
	if n := len(told.todo); n < 50 {
		t.Fatalf("Todo has %d", n)
	}
	var all sync.WaitGroup
	for range 8 {
		all.Go(func() {
			b := txn.New()
			for _, x := range list {
				b.Apply(x)
			}
			checkState(t, b, told)
		})
	}
	all.Wait()
}

// P1601: what is handed in, and what is answered

func TestTheBytesOfAnEventAreNotKept(t *testing.T) {
	b := mustNew(t)
	for _, x := range []txn.Event{start("abc", 10, 0), add(0, 0, 5, 0), add(0, 0, 3, 0), yes(0, 0)} {
		bytes := mustPut(t, x)
		got, _ := txn.GetEvent(bytes)
		mustTake(t, b, got)
		spoil(bytes, 'x')
	}
	checkFound(t, b, "abc", 0, 0)
	checkProducer(t, b, 0, txn.Committing, 0, 3, 5)
}

func TestWhatIsAnsweredIsNewMemory(t *testing.T) {
	b := made(t, start("x", 10, 0), start("y", 10, 0), start("z", 10, 0))
	for _, place := range []int{1, 2, 3, 4, 7} {
		mustTake(t, b, add(0, 0, place, 0), add(1, 0, place, 0), add(2, 0, place, 0))
	}
	mustTake(t, b, yes(1, 0), no(2, 0), marked(1, 0, 2)) // leaves room behind the places
	want := stateOf(b)
	zero, one, todo := b.Places(0), b.Places(1), b.Todo()
	for producer := range 3 {
		spoil(b.Places(producer), 77)
	}
	spoil(b.Todo(), txn.Todo{77, 77, 77, true})
	checkState(t, b, want)
	if !slices.Equal(zero, b.Places(0)) || !slices.Equal(one, b.Places(1)) || !slices.Equal(todo, b.Todo()) {
		t.Errorf("answers share memory: %v, %v, %v", zero, one, todo)
	}
	mustTake(t, b, marked(1, 0, 3), add(0, 0, 0, 0))
	checkProducer(t, b, 0, txn.Open, 0, 0, 1, 2, 3, 4, 7)
	checkProducer(t, b, 1, txn.Committing, 0, 1, 4, 7)
}

func TestWhatIsAnsweredDoesNotChangeLater(t *testing.T) {
	b := made(t, start("x", 10, 0), start("y", 10, 0))
	for _, place := range []int{1, 2, 3, 4, 7} {
		mustTake(t, b, add(0, 0, place, 0), add(1, 0, place, 0))
	}
	mustTake(t, b, yes(1, 0))
	open, waits, todo := b.Places(0), b.Places(1), b.Todo()
	list := slices.Clone(todo)
	mustTake(t, b, add(0, 0, 0, 0), marked(1, 0, 1), marked(1, 0, 3), no(0, 0), marked(0, 0, 2), marked(1, 0, 7))
	if !slices.Equal(open, []int{1, 2, 3, 4, 7}) || !slices.Equal(waits, []int{1, 2, 3, 4, 7}) || !slices.Equal(todo, list) {
		t.Errorf("%v, %v, %v", open, waits, todo)
	}
}
