package txn_test

import (
	"fmt"
	"maps"
	"slices"
	"testing"

	"gazette/api"
	"gazette/txn"
)

// plain has the events that counted, and works everything out of them in each call.
type plain struct {
	took   []txn.Event
	epochs map[int]int // by producers: the first ones, where they are not 0
}

// names has them by their producers' numbers.
func (p *plain) names() []string {
	var list []string
	for _, x := range p.took {
		if x.Kind == txn.Init && !slices.Contains(list, x.Name) {
			list = append(list, x.Name)
		}
	}
	return list
}

// tale is what became of one producer.
type tale struct {
	timeout, epoch, since int
	places                map[int]int
	decided, committed    bool
}

func (a tale) status() int {
	switch {
	case len(a.places) == 0:
		return txn.Empty
	case !a.decided:
		return txn.Open
	case a.committed:
		return txn.Committing
	}
	return txn.Aborting
}

func (a tale) isOver(now int) bool { return a.status() == txn.Open && a.since <= now-a.timeout }

// of goes through all that befell one producer: it takes nothing of what others did.
func (p *plain) of(producer int) tale {
	name := p.names()[producer]
	a := tale{epoch: p.epochs[producer] - 1, places: map[int]int{}}
	for _, x := range p.took {
		switch {
		case x.Kind == txn.Init && x.Name == name:
			a.epoch, a.timeout, a.decided, a.committed = a.epoch+1, x.Timeout, a.status() == txn.Open, false
		case x.Kind == txn.Expire && a.isOver(x.Now):
			a.epoch, a.decided, a.committed = min(a.epoch+1, 1<<31-1), true, false
		case x.Kind == txn.Init || x.Kind == txn.Expire || x.Producer != producer:
		case x.Kind == txn.Add:
			if len(a.places) == 0 {
				a.since, a.decided = x.Now, false
			}
			a.places[x.Place]++
		case x.Kind == txn.End:
			a.decided, a.committed = true, x.Yes
		case x.Kind == txn.Marked:
			delete(a.places, x.Place)
		}
	}
	return a
}

func (p *plain) todo() []txn.Todo {
	var list []txn.Todo
	for producer := range p.names() {
		a := p.of(producer)
		if a.status() != txn.Committing && a.status() != txn.Aborting {
			continue
		}
		for _, place := range slices.Sorted(maps.Keys(a.places)) {
			list = append(list, txn.Todo{Producer: producer, Epoch: a.epoch, Place: place, Yes: a.status() == txn.Committing})
		}
	}
	return list
}

func (p *plain) Decide(x txn.Event) (bool, api.Errno) {
	if !mayBe(x) {
		return false, api.ErrArg
	}
	all := p.names()
	switch x.Kind {
	case txn.Init:
		return false, p.decideInit(x, all)
	case txn.Expire:
		for producer := range all {
			if p.of(producer).isOver(x.Now) {
				return false, api.OK
			}
		}
		return true, api.OK
	}
	if x.Producer >= len(all) {
		return false, api.ErrNone
	}
	a := p.of(x.Producer)
	if a.epoch != x.Epoch {
		return false, api.ErrFence
	}
	_, is := a.places[x.Place]
	waits := a.status() == txn.Committing || a.status() == txn.Aborting
	switch x.Kind {
	case txn.Add:
		if waits {
			return false, api.ErrState
		}
		if len(a.places) == 100 && !is {
			return false, api.ErrFull
		}
		return is, api.OK
	case txn.End:
		if a.status() == txn.Empty || a.status() == txn.Committing && x.Yes || a.status() == txn.Aborting && !x.Yes {
			return true, api.OK
		}
		if waits {
			return false, api.ErrState
		}
		return false, api.OK
	}
	return a.status() == txn.Empty || a.status() == txn.Open || !is, api.OK
}

func (p *plain) decideInit(x txn.Event, all []string) api.Errno {
	producer := slices.Index(all, x.Name)
	if producer < 0 {
		if len(all) == 1000 {
			return api.ErrFull
		}
		return api.OK
	}
	a := p.of(producer)
	if a.status() == txn.Committing || a.status() == txn.Aborting {
		return api.ErrState
	}
	if a.epoch == 1<<31-1 {
		return api.ErrOver
	}
	return api.OK
}

func (p *plain) Apply(x txn.Event) api.Errno {
	done, e := p.Decide(x)
	if e == api.OK && !done {
		p.took = append(p.took, x)
	}
	return e
}

// difference tells where b is not what p is.
func difference(b *txn.Book, p *plain) string {
	all := p.names()
	for producer, name := range all {
		a := p.of(producer)
		if n, epoch, is := b.Find(name); n != producer || epoch != a.epoch || !is {
			return fmt.Sprintf("Find(%q): %d, %d, %v, not %d, %d", name, n, epoch, is, producer, a.epoch)
		}
		if status, epoch, is := b.Status(producer); status != a.status() || epoch != a.epoch || !is {
			return fmt.Sprintf("Status(%d): %d, %d, %v, not %d, %d", producer, status, epoch, is, a.status(), a.epoch)
		}
		if l := b.Places(producer); !slices.Equal(l, slices.Sorted(maps.Keys(a.places))) {
			return fmt.Sprintf("Places(%d): %v, not %v", producer, l, a.places)
		}
	}
	if _, _, is := b.Status(len(all)); is {
		return fmt.Sprintf("there is a producer %d", len(all))
	}
	if l := b.Todo(); !slices.Equal(l, p.todo()) {
		return fmt.Sprintf("Todo: %v, not %v", l, p.todo())
	}
	return ""
}

// step is one event, looked at, and applied, by both.
func step(t *testing.T, b *txn.Book, p *plain, x txn.Event) (done bool, e api.Errno) {
	t.Helper()
	done, e = b.Decide(x)
	if wantDone, want := p.Decide(x); done != wantDone || e != want {
		t.Fatalf("behind %d events: Decide(%s): %v, %d, not %v, %d", len(p.took), brief(x), done, e, wantDone, want)
	}
	got, want := b.Apply(x), p.Apply(x)
	if got != want {
		t.Fatalf("behind %d events: Apply(%s): %d, not %d", len(p.took), brief(x), got, want)
	}
	if s := difference(b, p); s != "" {
		t.Fatalf("behind %s: %s", brief(x), s)
	}
	return done, e
}

// event is one that could come to p: mostly one that is taken, or done.
func (d dice) event(p *plain, crew []string) txn.Event {
	all := p.names()
	now := rarely(d, len(p.took)/2+d.IntN(4), -1, 0, topNumber-10, topNumber, api.MaxNumber)
	timeout := rarely(d, 1+d.IntN(15), -1, 0, 3600, 3601)
	if len(all) == 0 || d.IntN(8) == 0 {
		return start(pick(d, crew...), timeout, now)
	}
	number := d.IntN(len(all))
	producer := rarely(d, number, -1, len(all), topNumber, api.MaxNumber)
	a := p.of(number)
	epoch := rarely(d, a.epoch, -1, 0, a.epoch-1, a.epoch-1, a.epoch+1, 1<<31)
	place := rarely(d, d.IntN(6), -1, topNumber, api.MaxNumber)
	if l := slices.Sorted(maps.Keys(a.places)); len(l) > 0 && d.IntN(2) == 0 {
		place = pick(d, l...)
	}
	var x txn.Event
	switch d.IntN(20) {
	case 0, 1, 2, 3, 4, 5, 6:
		x = add(producer, epoch, place, now)
	case 7, 8, 9:
		x = yes(producer, epoch)
	case 10, 11:
		x = no(producer, epoch)
	case 12, 13, 14, 15, 16, 17:
		x = marked(producer, epoch, place)
	default:
		x = expire(now + d.IntN(12))
	}
	if d.IntN(60) == 0 {
		x.Kind = d.IntN(8)
	}
	return x
}

// TestAnyCallsByTheChaptersWords: each answer is that of a plain book.
func TestAnyCallsByTheChaptersWords(t *testing.T) {
	seen, dones, took := map[api.Errno]int{}, map[int]int{}, map[int]int{}
	for seed := range uint64(150) {
		d := diceOf(seed, 16)
		crew := names(1 + d.IntN(5))
		p, b := &plain{}, mustNew(t)
		for range 150 {
			x := d.event(p, crew)
			done, e := step(t, b, p, x)
			seen[e]++
			if done {
				dones[x.Kind]++
			} else if e == api.OK {
				took[x.Kind]++
			}
		}
	}
	for _, e := range []api.Errno{api.OK, api.ErrArg, api.ErrNone, api.ErrFence, api.ErrState} {
		if seen[e] < 100 {
			t.Errorf("the answer %d came %d times", e, seen[e])
		}
	}
	for kind := txn.Init; kind <= txn.Expire; kind++ {
		if took[kind] < 100 {
			t.Errorf("of the kind %d %d were taken", kind, took[kind])
		}
		if kind != txn.Init && dones[kind] < 100 {
			t.Errorf("of the kind %d %d were done", kind, dones[kind])
		}
	}
}

// TestTheLastEpochsByTheChaptersWords: of producers whose epochs are nearly used up.
func TestTheLastEpochsByTheChaptersWords(t *testing.T) {
	over := 0
	for seed := range uint64(40) {
		d := diceOf(seed, 17)
		p, b := &plain{epochs: map[int]int{}}, mustNew(t)
		for producer, name := range names(3) {
			x := start(name, 5, 0)
			mustTake(t, b, x)
			p.took = append(p.took, x)
			p.epochs[producer] = topEpoch - d.IntN(4)
			txn.SetEpoch(b, producer, p.epochs[producer])
		}
		for range 100 {
			if _, e := step(t, b, p, d.event(p, names(3))); e == api.ErrOver {
				over++
			}
		}
	}
	if over < 100 {
		t.Errorf("%d were used up", over)
	}
}

// TestManyPlacesByTheChaptersWords: about as many as there is room for.
func TestManyPlacesByTheChaptersWords(t *testing.T) {
	full := 0
	for seed := range uint64(5) {
		d := diceOf(seed, 18)
		p, b := &plain{}, mustNew(t)
		step(t, b, p, start("x", 3600, 0))
		for range 700 {
			x := add(0, 0, d.IntN(150), d.IntN(100))
			if d.IntN(300) == 0 {
				x = yes(0, 0)
			}
			if status, _, _ := b.Status(0); status == txn.Committing {
				x = marked(0, 0, d.IntN(150))
			}
			if _, e := step(t, b, p, x); e == api.ErrFull {
				full++
			}
		}
	}
	if full < 100 {
		t.Errorf("%d were too many", full)
	}
}

// TestAllThatIsShort: all rows of five events of these few.
func TestAllThatIsShort(t *testing.T) {
	few := []txn.Event{
		start("x", 2, 0), start("x", 3, 1), start("y", 1, 1),
		add(0, 0, 1, 0), add(0, 0, 2, 1), add(0, 1, 1, 1), add(1, 0, 1, 0),
		yes(0, 0), no(0, 0), yes(0, 1), no(1, 0),
		marked(0, 0, 1), marked(0, 0, 2), marked(0, 1, 1), marked(1, 0, 1),
		expire(1), expire(2), expire(3),
	}
	var try func(p *plain, left int)
	try = func(p *plain, left int) {
		for _, x := range few {
			b := mustNew(t)
			for _, y := range p.took {
				b.Apply(y)
			}
			q := &plain{took: slices.Clone(p.took)}
			done, e := step(t, b, q, x)
			if left > 1 && e == api.OK && !done { // else it is the same book
				try(q, left-1)
			}
		}
	}
	try(&plain{}, 5)
	try(&plain{took: []txn.Event{start("x", 2, 0), add(0, 0, 1, 0)}}, 5)
	try(&plain{took: []txn.Event{start("x", 2, 0), start("y", 1, 1), add(0, 0, 1, 0), add(0, 0, 2, 1)}}, 4)
}
