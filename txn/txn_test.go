package txn_test

import (
	"math"
	"slices"
	"strings"
	"testing"

	"gazette/api"
	"gazette/txn"
)

func statuses() []int { return []int{txn.Empty, txn.Open, txn.Committing, txn.Aborting} }

// inStatus is a book whose producer 0, of the name x, has the epoch 2 and that status; but Empty its places are 3 and 7, and it is Open since 20, for 10 at most.
func inStatus(t *testing.T, status int) *txn.Book {
	t.Helper()
	b := made(t, start("x", 99, 0), start("x", 99, 1), start("x", 10, 2))
	if status != txn.Empty {
		mustTake(t, b, add(0, 2, 7, 20), add(0, 2, 3, 21))
	}
	switch status {
	case txn.Committing:
		mustTake(t, b, yes(0, 2))
	case txn.Aborting:
		mustTake(t, b, no(0, 2))
	}
	checkProducer(t, b, 0, status, 2, placesIn(status)...)
	return b
}

func placesIn(status int) []int {
	if status == txn.Empty {
		return nil
	}
	return []int{3, 7}
}

// The chapter's example

func TestExample(t *testing.T) {
	b := made(t, start("x", 10, 0))
	checkFound(t, b, "x", 0, 0)
	checkProducer(t, b, 0, txn.Empty, 0)
	mustTake(t, b, add(0, 0, 3, 0))
	checkProducer(t, b, 0, txn.Open, 0, 3)
	checkTodo(t, b)
	mustTake(t, b, yes(0, 0))
	checkProducer(t, b, 0, txn.Committing, 0, 3)
	checkTodo(t, b, txn.Todo{0, 0, 3, true})
	mustTake(t, b, marked(0, 0, 3))
	checkProducer(t, b, 0, txn.Empty, 0)
	checkTodo(t, b)
	mustTake(t, b, start("x", 10, 0))
	checkFound(t, b, "x", 0, 1)
	checkRefused(t, b, add(0, 0, 3, 0), api.ErrFence)
}

// P1601

func TestBooksThatNewDidNotMake(t *testing.T) {
	for name, b := range map[string]*txn.Book{"nil": nil, "zero": {}} {
		for _, x := range append(append(right(), wrong()...), txn.Event{}) {
			if done, e := b.Decide(x); done || e != api.ErrArg {
				t.Errorf("%s: Decide(%s): %v, %d", name, brief(x), done, e)
			}
			if e := b.Apply(x); e != api.ErrArg {
				t.Errorf("%s: Apply(%s): %d", name, brief(x), e)
			}
		}
		for _, s := range []string{"", "x"} {
			if p, n, is := b.Find(s); p != 0 || n != 0 || is {
				t.Errorf("%s: Find(%q): %d, %d, %v", name, s, p, n, is)
			}
		}
		for _, producer := range []int{math.MinInt, -1, 0, 1, math.MaxInt} {
			if s, n, is := b.Status(producer); s != 0 || n != 0 || is {
				t.Errorf("%s: Status(%d): %d, %d, %v", name, producer, s, n, is)
			}
			if l := b.Places(producer); len(l) != 0 {
				t.Errorf("%s: Places(%d): %v", name, producer, l)
			}
		}
		if l := b.Todo(); len(l) != 0 {
			t.Errorf("%s: Todo: %v", name, l)
		}
	}
}

func TestANewBookKnowsNobody(t *testing.T) {
	b := mustNew(t)
	for _, producer := range []int{0, 1, topNumber} {
		checkRefused(t, b, add(producer, 0, 0, 0), api.ErrNone)
		checkRefused(t, b, yes(producer, 0), api.ErrNone)
		checkRefused(t, b, no(producer, 0), api.ErrNone)
		checkRefused(t, b, marked(producer, 0, 0), api.ErrNone)
	}
	checkDone(t, b, expire(0))
	checkDone(t, b, expire(topNumber))
	checkTodo(t, b)
}

func TestBooksAreApart(t *testing.T) {
	b, c := mustNew(t), mustNew(t)
	was := stateOf(c)
	mustTake(t, b, start("x", 10, 0), add(0, 0, 3, 0), yes(0, 0), start("y", 10, 0))
	checkState(t, c, was)
}

// P1603: what may not be

func TestWhatMayNotBeIsRefusedFirst(t *testing.T) {
	for _, status := range statuses() {
		b := inStatus(t, status)
		for _, x := range wrong() {
			checkRefused(t, b, x, api.ErrArg)
		}
	}
	b := inStatus(t, txn.Committing)
	for name, x := range map[string]txn.Event{
		"Init of one that is Committing": start("x", 0, 0),
		"Add of nobody":                  add(5, 2, -1, 0),
		"Add with another epoch":         add(0, 1, 3, api.MaxNumber),
		"End of nobody":                  with(yes(5, 2), "Place", 1),
		"End that is done":               with(yes(0, 2), "Now", 1),
		"Marked of nobody":               with(marked(5, 2, 3), "Yes", true),
		"Marked with another epoch":      marked(0, 1<<31, 3),
		"Expire that is done":            with(expire(0), "Name", "x"),
	} {
		if done, e := b.Decide(x); done || e != api.ErrArg {
			t.Errorf("%s: %v, %d", name, done, e)
		}
	}
}

func TestWhatMayBeIsNotRefusedAsAnArgument(t *testing.T) {
	for _, status := range statuses() {
		b := inStatus(t, status)
		for _, x := range right() {
			if _, e := b.Decide(x); e == api.ErrArg {
				t.Errorf("Decide(%s): ErrArg", brief(x))
			}
		}
	}
}

// P1603, P1604: Init

func TestInitOfNewNames(t *testing.T) {
	b := mustNew(t)
	list := []string{"x", "X", "xx", "\x00", "\xff", strings.Repeat("x", api.MaxName), strings.Repeat("x", api.MaxName-1), "a"}
	for i, name := range list {
		mustTake(t, b, start(name, 1+i, topNumber-i))
		for producer, s := range list[:i+1] {
			checkFound(t, b, s, producer, 0)
			checkProducer(t, b, producer, txn.Empty, 0)
		}
		if _, _, is := b.Status(i + 1); is {
			t.Errorf("there is a producer %d", i+1)
		}
	}
}

func TestInitOfAKnownName(t *testing.T) {
	b := inStatus(t, txn.Empty)
	mustTake(t, b, start("x", 5, 0))
	checkProducer(t, b, 0, txn.Empty, 3)
	checkFound(t, b, "x", 0, 3)
	b = inStatus(t, txn.Open)
	mustTake(t, b, start("x", 5, 0))
	checkProducer(t, b, 0, txn.Aborting, 3, 3, 7)
	checkTodo(t, b, txn.Todo{0, 3, 3, false}, txn.Todo{0, 3, 7, false})
	for _, status := range []int{txn.Committing, txn.Aborting} {
		b = inStatus(t, status)
		checkRefused(t, b, start("x", 5, 0), api.ErrState)
		mustTake(t, b, marked(0, 2, 3))
		checkRefused(t, b, start("x", 5, 0), api.ErrState)
		mustTake(t, b, marked(0, 2, 7), start("x", 5, 0))
		checkProducer(t, b, 0, txn.Empty, 3)
	}
}

func TestInitIsOfOneNameAlone(t *testing.T) {
	b := inStatus(t, txn.Open)
	mustTake(t, b, start("y", 10, 0), add(1, 0, 7, 0), start("y", 10, 0))
	checkProducer(t, b, 0, txn.Open, 2, 3, 7)
	checkProducer(t, b, 1, txn.Aborting, 1, 7)
	mustTake(t, b, start("z", 10, 0)) // others that wait for markers stop nobody
	checkProducer(t, b, 2, txn.Empty, 0)
}

// checkTimeout looks that a transaction which is opened at 100 has just that time.
func checkTimeout(t *testing.T, b *txn.Book, epoch, timeout int) {
	t.Helper()
	mustTake(t, b, add(0, epoch, 1, 100))
	checkDone(t, b, expire(100+timeout-1))
	mustTake(t, b, expire(100+timeout))
}

func TestInitSetsTheTimeout(t *testing.T) {
	for _, timeout := range []int{1, 2, 3599, 3600} {
		checkTimeout(t, made(t, start("x", timeout, 50)), 0, timeout)
		checkTimeout(t, made(t, start("x", 40, 0), start("x", timeout, 50)), 1, timeout)
		checkTimeout(t, made(t, start("x", timeout, 0), start("x", 40, 50)), 1, 40)
		// of one that was Open: the new time is that of the next transaction
		checkTimeout(t, made(t, start("x", 40, 0), add(0, 0, 1, 0), start("x", timeout, 50), marked(0, 1, 1)), 1, timeout)
	}
	b := inStatus(t, txn.Committing)
	checkRefused(t, b, start("x", 5, 0), api.ErrState)
	mustTake(t, b, marked(0, 2, 3), marked(0, 2, 7))
	checkTimeout(t, b, 2, 10)
}

func TestInitOfTheLastEpochs(t *testing.T) {
	for _, status := range statuses() {
		b := inStatus(t, status)
		txn.SetEpoch(b, 0, topEpoch)
		want := api.ErrOver
		if status == txn.Committing || status == txn.Aborting {
			want = api.ErrState
		}
		checkRefused(t, b, start("x", 10, 0), want)
		checkProducer(t, b, 0, status, topEpoch, placesIn(status)...)
		mustTake(t, b, start("y", 10, 0))
	}
	b := inStatus(t, txn.Empty)
	txn.SetEpoch(b, 0, topEpoch-1)
	mustTake(t, b, start("x", 10, 0))
	checkProducer(t, b, 0, txn.Empty, topEpoch)
	checkFound(t, b, "x", 0, topEpoch)
	checkRefused(t, b, start("x", 10, 0), api.ErrOver)
	mustTake(t, b, add(0, topEpoch, 1, 0), yes(0, topEpoch), marked(0, topEpoch, 1), add(0, topEpoch, 2, 0))
	checkRefused(t, b, start("x", 10, 0), api.ErrOver)
	checkProducer(t, b, 0, txn.Open, topEpoch, 2)
}

func TestAThousandProducers(t *testing.T) {
	b := mustNew(t)
	list := names(thousand + 1)
	for i, name := range list[:thousand] {
		mustTake(t, b, start(name, 10, 0))
		checkFound(t, b, name, i, 0)
	}
	checkRefused(t, b, start(list[thousand], 10, 0), api.ErrFull)
	checkRefused(t, b, start("x", 10, 0), api.ErrFull)
	if _, _, is := b.Status(thousand); is {
		t.Error("there is one more")
	}
	mustTake(t, b, start(list[0], 10, 0), start(list[thousand-1], 10, 0), add(thousand-1, 1, 5, 0), yes(thousand-1, 1))
	checkFound(t, b, list[0], 0, 1)
	checkFound(t, b, list[thousand-1], thousand-1, 1)
	checkTodo(t, b, txn.Todo{thousand - 1, 1, 5, true})
	checkRefused(t, b, start(list[thousand-1], 10, 0), api.ErrState)
	checkRefused(t, b, add(thousand, 0, 0, 0), api.ErrNone)
	checkRefused(t, b, start(list[thousand], 10, 0), api.ErrFull)
	mustTake(t, b, marked(thousand-1, 1, 5))
	checkRefused(t, b, start(list[thousand], 10, 0), api.ErrFull) // nobody is forgotten
}

// P1603: who may write

func TestOfWhoIsNotThere(t *testing.T) {
	for _, status := range statuses() {
		b := inStatus(t, status)
		for _, producer := range []int{1, 2, 1 << 32, topNumber} {
			for _, epoch := range []int{0, 1, 2, 3, topEpoch} {
				checkRefused(t, b, add(producer, epoch, 3, 20), api.ErrNone)
				checkRefused(t, b, yes(producer, epoch), api.ErrNone)
				checkRefused(t, b, no(producer, epoch), api.ErrNone)
				checkRefused(t, b, marked(producer, epoch, 3), api.ErrNone)
			}
		}
	}
}

func TestOfOtherEpochs(t *testing.T) {
	for _, status := range statuses() {
		b := inStatus(t, status)
		for _, epoch := range []int{0, 1, 3, topEpoch} {
			for _, place := range []int{3, 7, 8} {
				checkRefused(t, b, add(0, epoch, place, 20), api.ErrFence)
				checkRefused(t, b, marked(0, epoch, place), api.ErrFence)
			}
			checkRefused(t, b, yes(0, epoch), api.ErrFence)
			checkRefused(t, b, no(0, epoch), api.ErrFence)
		}
		checkProducer(t, b, 0, status, 2, placesIn(status)...)
	}
}

func TestEachProducerHasItsOwnEpoch(t *testing.T) {
	b := made(t, start("x", 10, 0), start("y", 10, 0), start("y", 10, 0))
	checkRefused(t, b, add(0, 1, 3, 0), api.ErrFence)
	checkRefused(t, b, add(1, 0, 3, 0), api.ErrFence)
	mustTake(t, b, add(0, 0, 3, 0), add(1, 1, 3, 0))
}

// P1603, P1604: Add

func TestAdd(t *testing.T) {
	b := inStatus(t, txn.Empty)
	mustTake(t, b, add(0, 2, 7, 20))
	checkProducer(t, b, 0, txn.Open, 2, 7)
	checkDone(t, b, add(0, 2, 7, 20))
	checkDone(t, b, add(0, 2, 7, 50))
	mustTake(t, b, add(0, 2, topNumber, 0), add(0, 2, 0, 20), add(0, 2, 3, 99))
	checkProducer(t, b, 0, txn.Open, 2, 0, 3, 7, topNumber)
	for _, place := range []int{0, 3, 7, topNumber} {
		checkDone(t, b, add(0, 2, place, 5))
	}
	checkTodo(t, b)
	for _, status := range []int{txn.Committing, txn.Aborting} {
		b = inStatus(t, status)
		for _, place := range []int{0, 3, 7, topNumber} {
			checkRefused(t, b, add(0, 2, place, 20), api.ErrState)
		}
		mustTake(t, b, marked(0, 2, 3))
		checkRefused(t, b, add(0, 2, 3, 20), api.ErrState)
		mustTake(t, b, marked(0, 2, 7), add(0, 2, 3, 20))
		checkProducer(t, b, 0, txn.Open, 2, 3)
	}
}

func TestAHundredPlaces(t *testing.T) {
	b := inStatus(t, txn.Empty)
	var places []int
	for i := range hundred {
		place := i * 37 % hundred // each once, in no order
		mustTake(t, b, add(0, 2, place, i))
		places = append(places, i)
		if n := len(b.Places(0)); n != i+1 {
			t.Fatalf("behind %d: %d places", i+1, n)
		}
	}
	checkProducer(t, b, 0, txn.Open, 2, places...)
	for _, place := range []int{hundred, hundred + 1, topNumber} {
		checkRefused(t, b, add(0, 2, place, 0), api.ErrFull)
		checkRefused(t, b, add(0, 1, place, 0), api.ErrFence)
		checkRefused(t, b, add(1, 2, place, 0), api.ErrNone)
	}
	for _, place := range []int{0, 50, hundred - 1} {
		checkDone(t, b, add(0, 2, place, 0))
	}
	mustTake(t, b, start("y", 10, 0), add(1, 0, hundred, 0)) // another one's are counted by themselves
	mustTake(t, b, yes(0, 2))
	checkRefused(t, b, add(0, 2, hundred, 0), api.ErrState)
	checkRefused(t, b, add(0, 2, 0, 0), api.ErrState)
	for i := range hundred {
		checkProducer(t, b, 0, txn.Committing, 2, places...)
		place := places[(i*31)%len(places)]
		mustTake(t, b, marked(0, 2, place))
		places = slices.DeleteFunc(places, func(p int) bool { return p == place })
	}
	checkProducer(t, b, 0, txn.Empty, 2)
	mustTake(t, b, add(0, 2, hundred, 0))
	checkProducer(t, b, 0, txn.Open, 2, hundred)
}

// P1603, P1604: End

func TestEnd(t *testing.T) {
	for _, c := range []struct {
		x, other        txn.Event
		status, without int
	}{
		{yes(0, 2), no(0, 2), txn.Committing, txn.Aborting},
		{no(0, 2), yes(0, 2), txn.Aborting, txn.Committing},
	} {
		b := inStatus(t, txn.Open)
		mustTake(t, b, c.x)
		checkProducer(t, b, 0, c.status, 2, 3, 7)
		checkDone(t, b, c.x) // a second time
		checkRefused(t, b, c.other, api.ErrState)
		mustTake(t, b, marked(0, 2, 3))
		checkDone(t, b, c.x)
		checkRefused(t, b, c.other, api.ErrState)
		mustTake(t, b, marked(0, 2, 7))
		checkProducer(t, b, 0, txn.Empty, 2)
		checkDone(t, b, c.x)
		checkDone(t, b, c.other)
		// the next one is decided anew
		mustTake(t, b, add(0, 2, 4, 30), c.other)
		checkProducer(t, b, 0, c.without, 2, 4)
	}
}

func TestEndWithoutPlaces(t *testing.T) {
	b := inStatus(t, txn.Empty)
	checkDone(t, b, yes(0, 2))
	checkDone(t, b, no(0, 2))
	checkProducer(t, b, 0, txn.Empty, 2)
	checkTodo(t, b)
}

func TestEndIsOfOneProducer(t *testing.T) {
	b := made(t, start("x", 10, 0), start("y", 10, 0), start("z", 10, 0), add(0, 0, 3, 0), add(1, 0, 3, 0), add(2, 0, 3, 0))
	mustTake(t, b, yes(1, 0))
	checkProducer(t, b, 0, txn.Open, 0, 3)
	checkProducer(t, b, 1, txn.Committing, 0, 3)
	checkProducer(t, b, 2, txn.Open, 0, 3)
	mustTake(t, b, no(2, 0), marked(1, 0, 3))
	checkProducer(t, b, 0, txn.Open, 0, 3)
	checkProducer(t, b, 1, txn.Empty, 0)
	checkProducer(t, b, 2, txn.Aborting, 0, 3)
}

// P1603, P1604: Marked

func TestMarked(t *testing.T) {
	for _, status := range []int{txn.Empty, txn.Open} {
		b := inStatus(t, status)
		for _, place := range []int{0, 3, 7, topNumber} {
			checkDone(t, b, marked(0, 2, place))
		}
		checkProducer(t, b, 0, status, 2, placesIn(status)...)
	}
	for _, status := range []int{txn.Committing, txn.Aborting} {
		for _, order := range [][2]int{{3, 7}, {7, 3}} {
			b := inStatus(t, status)
			for _, place := range []int{0, 2, 4, 6, 8, topNumber} {
				checkDone(t, b, marked(0, 2, place))
			}
			mustTake(t, b, marked(0, 2, order[0]))
			checkProducer(t, b, 0, status, 2, order[1])
			checkTodo(t, b, txn.Todo{0, 2, order[1], status == txn.Committing})
			checkDone(t, b, marked(0, 2, order[0]))
			mustTake(t, b, marked(0, 2, order[1]))
			checkProducer(t, b, 0, txn.Empty, 2)
			checkTodo(t, b)
			checkDone(t, b, marked(0, 2, order[1]))
		}
	}
}

// P1603, P1604: Expire

func TestExpire(t *testing.T) {
	for _, status := range []int{txn.Empty, txn.Committing, txn.Aborting} {
		b := inStatus(t, status)
		for _, now := range []int{0, 29, 30, 31, topNumber} {
			checkDone(t, b, expire(now))
		}
		checkProducer(t, b, 0, status, 2, placesIn(status)...)
	}
	for _, now := range []int{0, 19, 20, 29} {
		checkDone(t, inStatus(t, txn.Open), expire(now))
	}
	for _, now := range []int{30, 31, topNumber} {
		b := inStatus(t, txn.Open)
		mustTake(t, b, expire(now))
		checkProducer(t, b, 0, txn.Aborting, 3, 3, 7)
		checkFound(t, b, "x", 0, 3)
		checkTodo(t, b, txn.Todo{0, 3, 3, false}, txn.Todo{0, 3, 7, false})
		checkDone(t, b, expire(now))
		checkRefused(t, b, marked(0, 2, 3), api.ErrFence)
		checkRefused(t, b, yes(0, 2), api.ErrFence)
		checkRefused(t, b, yes(0, 3), api.ErrState)
		checkDone(t, b, no(0, 3))
		mustTake(t, b, marked(0, 3, 7), marked(0, 3, 3))
		checkProducer(t, b, 0, txn.Empty, 3)
		checkDone(t, b, expire(topNumber))
		checkRefused(t, b, add(0, 2, 3, 50), api.ErrFence)
		mustTake(t, b, add(0, 3, 3, 50))
		checkDone(t, b, expire(59))
		mustTake(t, b, expire(60))
		checkProducer(t, b, 0, txn.Aborting, 4, 3)
	}
}

// TestSinceWhenItIsOpen: that is the time of its first Add; neither later nor earlier ones count.
func TestSinceWhenItIsOpen(t *testing.T) {
	for _, later := range []int{0, 19, 20, 25, 1000, topNumber} {
		b := made(t, start("x", 10, 700), add(0, 0, 1, 20), add(0, 0, 2, later))
		checkDone(t, b, add(0, 0, 1, later))
		checkDone(t, b, expire(29))
		mustTake(t, b, expire(30))
	}
	b := made(t, start("x", 10, 0), add(0, 0, 1, 500), yes(0, 0), marked(0, 0, 1), add(0, 0, 1, 20))
	checkDone(t, b, expire(29))
	mustTake(t, b, expire(30))
}

func TestExpireOfSeveralAtOnce(t *testing.T) {
	open := []txn.Event{
		start("x", 10, 0), start("y", 5, 0), start("z", 10, 0), start("u", 10, 0), start("v", 3600, 0), start("w", 1, 0),
		add(0, 0, 4, 20), add(1, 0, 9, 25), add(1, 0, 8, 90), add(2, 0, 1, 21), add(3, 0, 2, 1), add(4, 0, 3, 1), yes(3, 0),
	}
	for _, c := range []struct {
		now  int
		over []int
	}{
		{29, nil}, {30, []int{0, 1}}, {31, []int{0, 1, 2}}, {3600, []int{0, 1, 2}}, {3601, []int{0, 1, 2, 4}}, {topNumber, []int{0, 1, 2, 4}},
	} {
		b := made(t, open...)
		if len(c.over) > 0 {
			mustTake(t, b, expire(c.now))
		}
		checkDone(t, b, expire(c.now))
		for producer, places := range [][]int{{4}, {8, 9}, {1}, {2}, {3}, nil} {
			status, epoch := txn.Open, 0
			switch {
			case slices.Contains(c.over, producer):
				status, epoch = txn.Aborting, 1
			case producer == 3:
				status = txn.Committing
			case producer == 5:
				status = txn.Empty
			}
			checkProducer(t, b, producer, status, epoch, places...)
		}
	}
}

func TestExpireOfTheLastEpochs(t *testing.T) {
	for _, epoch := range []int{topEpoch - 1, topEpoch} {
		b := inStatus(t, txn.Open)
		txn.SetEpoch(b, 0, epoch)
		mustTake(t, b, start("y", 10, 0), add(1, 0, 5, 20), expire(30))
		checkProducer(t, b, 0, txn.Aborting, topEpoch, 3, 7)
		checkProducer(t, b, 1, txn.Aborting, 1, 5)
		checkTodo(t, b, txn.Todo{0, topEpoch, 3, false}, txn.Todo{0, topEpoch, 7, false}, txn.Todo{1, 1, 5, false})
		checkRefused(t, b, yes(0, topEpoch), api.ErrState)
		checkRefused(t, b, add(0, topEpoch, 3, 30), api.ErrState)
		mustTake(t, b, marked(0, topEpoch, 3), marked(0, topEpoch, 7))
		checkProducer(t, b, 0, txn.Empty, topEpoch)
		mustTake(t, b, add(0, topEpoch, 3, 30), expire(40))
		checkProducer(t, b, 0, txn.Aborting, topEpoch, 3)
	}
}

func TestTheLastTimes(t *testing.T) {
	b := made(t, start("x", 3600, 0), start("y", 3600, 0), start("z", 3600, 0))
	mustTake(t, b, add(0, 0, 1, topNumber-3600), add(1, 0, 1, topNumber-3599), add(2, 0, 1, topNumber))
	checkDone(t, b, expire(topNumber-1))
	mustTake(t, b, expire(topNumber))
	checkProducer(t, b, 0, txn.Aborting, 1, 1)
	checkProducer(t, b, 1, txn.Open, 0, 1)
	checkProducer(t, b, 2, txn.Open, 0, 1)
}

func TestDecideChangesNothing(t *testing.T) {
	for _, status := range statuses() {
		b := inStatus(t, status)
		was := stateOf(b)
		for _, x := range append(right(), start("x", 5, 0), add(0, 2, 5, 9), yes(0, 2), no(0, 2), marked(0, 2, 3), marked(0, 2, 7), expire(30)) {
			b.Decide(x)
		}
		checkState(t, b, was)
	}
}

// P1605

func TestTodoOfSeveral(t *testing.T) {
	b := made(t, start("x", 10, 0), start("z", 10, 0), start("y", 10, 0), start("u", 10, 0), start("v", 10, 0), start("u", 10, 0))
	for _, place := range []int{9, 3, topNumber, 0} {
		mustTake(t, b, add(4, 0, place, 0), add(0, 0, place, 0), add(2, 0, place, 0), add(3, 1, place, 0))
	}
	mustTake(t, b, yes(4, 0))
	four := []txn.Todo{{4, 0, 0, true}, {4, 0, 3, true}, {4, 0, 9, true}, {4, 0, topNumber, true}}
	checkTodo(t, b, four...)
	mustTake(t, b, no(0, 0))
	none := []txn.Todo{{0, 0, 0, false}, {0, 0, 3, false}, {0, 0, 9, false}, {0, 0, topNumber, false}}
	checkTodo(t, b, slices.Concat(none, four)...)
	mustTake(t, b, yes(3, 1))
	three := []txn.Todo{{3, 1, 0, true}, {3, 1, 3, true}, {3, 1, 9, true}, {3, 1, topNumber, true}}
	checkTodo(t, b, slices.Concat(none, three, four)...)
	mustTake(t, b, marked(3, 1, 3), marked(0, 0, 0), marked(4, 0, topNumber))
	checkTodo(t, b, slices.Concat(none[1:], three[:1], three[2:], four[:3])...)
	mustTake(t, b, expire(10)) // the producer 2 is over
	two := []txn.Todo{{2, 1, 0, false}, {2, 1, 3, false}, {2, 1, 9, false}, {2, 1, topNumber, false}}
	checkTodo(t, b, slices.Concat(none[1:], two, three[:1], three[2:], four[:3])...)
}

func TestTodoOfAllThatABookCanHave(t *testing.T) {
	b := mustNew(t)
	var want []txn.Todo
	for producer, name := range names(thousand) {
		if e := b.Apply(start(name, 1+producer%7, 0)); e != api.OK {
			t.Fatal(e)
		}
		for i := range hundred {
			if e := b.Apply(add(producer, 0, hundred-1-i, 0)); e != api.OK {
				t.Fatal(e)
			}
			want = append(want, txn.Todo{producer, 0, i, true})
		}
		if e := b.Apply(yes(producer, 0)); e != api.OK {
			t.Fatal(e)
		}
	}
	if l := b.Todo(); !slices.Equal(l, want) {
		t.Errorf("Todo has %d, not %d", len(l), len(want))
	}
}

func TestLooksAtWhatIsNotThere(t *testing.T) {
	for _, status := range statuses() {
		b := inStatus(t, status)
		for _, producer := range []int{math.MinInt, -2, -1, 1, 2, thousand, 1 << 32, math.MaxInt} {
			if s, n, is := b.Status(producer); s != 0 || n != 0 || is {
				t.Errorf("Status(%d): %d, %d, %v", producer, s, n, is)
			}
			if l := b.Places(producer); len(l) != 0 {
				t.Errorf("Places(%d): %v", producer, l)
			}
		}
		for _, name := range []string{"", "X", "xx", "x\x00", "y", string(make([]byte, 1<<16))} {
			if p, n, is := b.Find(name); p != 0 || n != 0 || is {
				t.Errorf("Find of another one: %d, %d, %v", p, n, is)
			}
		}
	}
}

func TestFindOfSeveral(t *testing.T) {
	b := made(t, start("y", 10, 0), start("x", 10, 0), start("x", 10, 0), start("z", 10, 0), start("x", 10, 0), start("z", 10, 0))
	checkFound(t, b, "y", 0, 0)
	checkFound(t, b, "x", 1, 2)
	checkFound(t, b, "z", 2, 1)
}

// P1607

func TestFencedByAnInit(t *testing.T) {
	for _, status := range []int{txn.Empty, txn.Open} {
		b := inStatus(t, status)
		mustTake(t, b, start("x", 10, 25))
		for epoch := range 3 {
			for _, x := range []txn.Event{add(0, epoch, 3, 26), add(0, epoch, 4, 26), yes(0, epoch), no(0, epoch), marked(0, epoch, 3)} {
				checkRefused(t, b, x, api.ErrFence)
			}
		}
	}
}
