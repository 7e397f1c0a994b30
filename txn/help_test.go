package txn_test

import (
	"fmt"
	"math/rand/v2"
	"reflect"
	"slices"
	"testing"

	"gazette/api"
	"gazette/txn"
)

const (
	topEpoch  = 1<<31 - 1
	topNumber = api.MaxNumber - 1
	thousand  = 1000 // the producers that a book can have
	hundred   = 100  // the places that a transaction can have
)

func start(name string, timeout, now int) txn.Event {
	return txn.Event{Kind: txn.Init, Name: name, Timeout: timeout, Now: now}
}

func add(producer, epoch, place, now int) txn.Event {
	return txn.Event{Kind: txn.Add, Producer: producer, Epoch: epoch, Place: place, Now: now}
}

// yes is an End with Yes; no is one without.
func yes(producer, epoch int) txn.Event {
	return txn.Event{Kind: txn.End, Producer: producer, Epoch: epoch, Yes: true}
}

func no(producer, epoch int) txn.Event {
	return txn.Event{Kind: txn.End, Producer: producer, Epoch: epoch}
}

func marked(producer, epoch, place int) txn.Event {
	return txn.Event{Kind: txn.Marked, Producer: producer, Epoch: epoch, Place: place}
}

func expire(now int) txn.Event { return txn.Event{Kind: txn.Expire, Now: now} }

// state is all that a book tells, with what it decides of many events: timeouts, and since when one is Open, can't be looked at.
type state struct {
	found    [][2]int // by names: the producer and its epoch; -1: nobody
	statuses [][2]int // with epochs
	places   [][]int
	todo     []txn.Todo
	decided  []decision
}

type decision struct {
	done bool
	e    api.Errno
}

// probes are of producers, epochs, places and times that the tests use.
func probes(b *txn.Book) []txn.Event {
	var list []txn.Event
	for _, name := range []string{"x", "y", "z", "new"} {
		list = append(list, start(name, 1, 0))
	}
	for producer := range 4 {
		_, epoch, _ := b.Status(producer)
		for _, e := range []int{0, max(epoch-1, 0), epoch, min(epoch+1, topEpoch)} {
			list = append(list, yes(producer, e), no(producer, e))
			for _, place := range []int{0, 1, 2, 3, 4, 7, hundred, topNumber} {
				list = append(list, add(producer, e, place, 0), marked(producer, e, place))
			}
		}
	}
	for now := range 60 {
		list = append(list, expire(now))
	}
	return append(list, expire(topNumber-1), expire(topNumber))
}

func stateOf(b *txn.Book) state {
	s := state{todo: append([]txn.Todo{}, b.Todo()...)}
	for _, name := range []string{"x", "y", "z", "new", ""} {
		producer, epoch, is := b.Find(name)
		if !is {
			producer, epoch = -1-producer, -1-epoch
		}
		s.found = append(s.found, [2]int{producer, epoch})
	}
	for producer := 0; ; producer++ {
		status, epoch, is := b.Status(producer)
		if !is {
			break
		}
		s.statuses = append(s.statuses, [2]int{status, epoch})
		s.places = append(s.places, append([]int{}, b.Places(producer)...))
	}
	for _, x := range probes(b) {
		done, e := b.Decide(x)
		s.decided = append(s.decided, decision{done, e})
	}
	return s
}

func checkState(t *testing.T, b *txn.Book, want state) {
	t.Helper()
	if s := stateOf(b); !reflect.DeepEqual(s, want) {
		t.Errorf("the book is %v, not %v", s, want)
	}
}

func mustNew(t *testing.T) *txn.Book {
	t.Helper()
	b := txn.New()
	if b == nil {
		t.Fatal("New: nil")
	}
	return b
}

// made is a book that took all these events.
func made(t *testing.T, list ...txn.Event) *txn.Book {
	t.Helper()
	b := mustNew(t)
	mustTake(t, b, list...)
	return b
}

// mustTake applies events for which there is something to do.
func mustTake(t *testing.T, b *txn.Book, list ...txn.Event) {
	t.Helper()
	for _, x := range list {
		if done, e := b.Decide(x); done || e != api.OK {
			t.Fatalf("Decide(%s): %v, %d, not false, 0", brief(x), done, e)
		}
		if e := b.Apply(x); e != api.OK {
			t.Fatalf("Apply(%s): %d", brief(x), e)
		}
	}
}

// checkDone looks at an event for which there is nothing to do.
func checkDone(t *testing.T, b *txn.Book, x txn.Event) {
	t.Helper()
	was := stateOf(b)
	if done, e := b.Decide(x); !done || e != api.OK {
		t.Errorf("Decide(%s): %v, %d, not true, 0", brief(x), done, e)
	}
	if e := b.Apply(x); e != api.OK {
		t.Errorf("Apply(%s): %d", brief(x), e)
	}
	checkState(t, b, was)
}

// checkRefused looks at an event that is not taken.
func checkRefused(t *testing.T, b *txn.Book, x txn.Event, want api.Errno) {
	t.Helper()
	was := stateOf(b)
	if done, e := b.Decide(x); done || e != want {
		t.Errorf("Decide(%s): %v, %d, not false, %d", brief(x), done, e, want)
	}
	if e := b.Apply(x); e != want {
		t.Errorf("Apply(%s): %d, not %d", brief(x), e, want)
	}
	checkState(t, b, was)
}

// checkProducer looks at all that is told of one.
func checkProducer(t *testing.T, b *txn.Book, producer, status, epoch int, places ...int) {
	t.Helper()
	s, n, is := b.Status(producer)
	if s != status || n != epoch || !is {
		t.Errorf("Status(%d): %d, %d, %v, not %d, %d", producer, s, n, is, status, epoch)
	}
	if l := b.Places(producer); !slices.Equal(l, places) {
		t.Errorf("Places(%d): %v, not %v", producer, l, places)
	}
}

func checkFound(t *testing.T, b *txn.Book, name string, producer, epoch int) {
	t.Helper()
	if p, n, is := b.Find(name); p != producer || n != epoch || !is {
		t.Errorf("Find(%q): %d, %d, %v, not %d, %d", name, p, n, is, producer, epoch)
	}
}

func checkTodo(t *testing.T, b *txn.Book, want ...txn.Todo) {
	t.Helper()
	if l := b.Todo(); !slices.Equal(l, want) {
		t.Errorf("Todo: %v, not %v", l, want)
	}
}

// brief tells an event without the whole of a long name.
func brief(x txn.Event) string {
	if len(x.Name) > 10 {
		x.Name = fmt.Sprint(x.Name[:5], "..", len(x.Name))
	}
	return fmt.Sprintf("%+v", x)
}

// names has n of them, rising.
func names(n int) []string {
	var list []string
	for i := range n {
		list = append(list, fmt.Sprintf("p%04d", i))
	}
	return list
}

// dice are what the tests choose by: the same ones in each run.
type dice struct{ *rand.Rand }

func diceOf(a, b uint64) dice { return dice{rand.New(rand.NewPCG(a, b))} }

func pick[T any](d dice, list ...T) T { return list[d.IntN(len(list))] }

// rarely is mostly n, and now and then another number.
func rarely(d dice, n int, others ...int) int {
	if d.IntN(25) > 0 {
		return n
	}
	return pick(d, others...)
}

// spoil overwrites all that l has, and the room behind.
func spoil[T any](l []T, with T) {
	for i := range l[:cap(l)] {
		l[:cap(l)][i] = with
	}
}
