package acceptor_test

import (
	"math/rand/v2"
	"strconv"
	"strings"
	"testing"

	"gazette/acceptor"
	"gazette/api"
)

// word is what an acceptor has said of a key and a version.
type word struct {
	prepared int // the greatest ballot of a Prepare that was OK
	promised int // the greatest that was told
	accepted int // the greatest ballot of an Accept that was OK, or that was told
	learned  bool
	value    string // what was learned
}

// watch follows what one acceptor says, through whatever becomes of its power.
type watch struct {
	t     *testing.T
	words map[place]word
}

// valueOf: who uses a ballot has one value for it.
func valueOf(ballot int) string {
	return strings.Repeat(strconv.Itoa(ballot), 1+ballot*ballot*3)
}

// see holds an answer against all that was said earlier.
func (w *watch) see(q acceptor.Ask, x acceptor.Answer) {
	w.t.Helper()
	if q.Kind == acceptor.Query {
		w.seeVersion(q.Key, x.Version)
	}
	if x.Version == 0 {
		return
	}
	at := place{q.Key, x.Version}
	said := w.words[at]
	w.seePromise(said, q, x)
	w.seeValue(said, q, x)
	if x.E == api.OK && q.Kind == acceptor.Prepare {
		said.prepared = max(said.prepared, q.Ballot)
	}
	said.promised, said.accepted = max(said.promised, x.Promised), max(said.accepted, x.Ballot)
	if x.Learned {
		said.learned, said.value = true, string(x.Value)
	}
	w.words[at] = said
}

// seeVersion: a Query tells no version below one that has something.
func (w *watch) seeVersion(key, version int) {
	w.t.Helper()
	for at, said := range w.words {
		if at.key == key && said.accepted > 0 && at.version > version {
			w.t.Errorf("Query of %d: %d, though the version %d was accepted", key, version, at.version)
		}
	}
}

func (w *watch) seePromise(said word, q acceptor.Ask, x acceptor.Answer) {
	w.t.Helper()
	if x.Promised < said.promised {
		w.t.Errorf("%v: promised is %d behind %d", shortAsk(q), x.Promised, said.promised)
	}
	if x.E != api.OK {
		return
	}
	if q.Kind == acceptor.Prepare && q.Ballot <= said.prepared || q.Kind == acceptor.Accept && q.Ballot < said.prepared {
		w.t.Errorf("%v is OK behind a Prepare of %d", shortAsk(q), said.prepared)
	}
}

func (w *watch) seeValue(said word, q acceptor.Ask, x acceptor.Answer) {
	w.t.Helper()
	if said.learned && (!x.Learned || string(x.Value) != said.value) {
		w.t.Errorf("%v: %v, though %.20s was learned", shortAsk(q), shortAnswer(x), said.value)
	}
	if x.Learned {
		return
	}
	if x.Ballot < said.accepted {
		w.t.Errorf("%v: %v, though the ballot %d was accepted", shortAsk(q), shortAnswer(x), said.accepted)
	}
	if x.Ballot > 0 && string(x.Value) != valueOf(x.Ballot) {
		w.t.Errorf("%v: %v, another value than its ballot's", shortAsk(q), shortAnswer(x))
	}
	if q.Kind == acceptor.Accept && x.E == api.OK && x.Ballot != q.Ballot {
		w.t.Errorf("%v: %v, though it is OK", shortAsk(q), shortAnswer(x))
	}
	if q.Kind == acceptor.Learn && x.E == api.OK {
		w.t.Errorf("%v: %v, though it is OK", shortAsk(q), shortAnswer(x))
	}
}

// proposal draws what a proposer may ask.
func proposal(r *rand.Rand) acceptor.Ask {
	key, version, ballot := r.IntN(2), 1+r.IntN(3), 1+r.IntN(9)
	switch r.IntN(10) {
	case 0:
		return learn(key, version, valueOf(ballot))
	case 1:
		return query(key)
	case 2, 3, 4, 5:
		return prepare(key, version, ballot)
	}
	return accept(key, version, ballot, valueOf(ballot))
}

// befall lets something become of the power now and then.
func befall(r *rand.Rand, a *acceptor.Acceptor) {
	switch r.IntN(8) {
	case 0:
		a.Cut(r.IntN(7))
	case 1:
		a.Stop()
	}
}

// start chooses so that blocks that were not synced often stay.
func start(t *testing.T, r *rand.Rand, a *acceptor.Acceptor) {
	t.Helper()
	choices := make([]int, r.IntN(8))
	for i := range choices {
		choices[i] = []int{1, 1, 1, 1, 0, 2}[r.IntN(6)]
	}
	checkStart(t, a, choices)
}

// P805, P806

func TestItKeepsItsWord(t *testing.T) {
	r := rand.New(rand.NewPCG(80, 5))
	answered, silent := 0, 0
	for range 400 {
		a := mustNew(t, 10+r.IntN(120))
		w := watch{t, map[place]word{}}
		for range 80 {
			befall(r, a)
			q := proposal(r)
			b := a.Ask(askBytes(q))
			if len(b) == 0 {
				silent++
				checkUp(t, a, false)
				start(t, r, a)
				continue
			}
			answered++
			x, e := acceptor.GetAnswer(b)
			if e != api.OK {
				t.Fatalf("%v: no answer", shortAsk(q))
			}
			w.see(q, x)
		}
	}
	if answered < 1000 || silent < 1000 {
		t.Errorf("only %d were answered and %d were not", answered, silent)
	}
}

// TestPromiseBehindEveryCrash: a Prepare that was answered is kept, whatever Asks are broken off behind it.
func TestPromiseBehindEveryCrash(t *testing.T) {
	for _, broken := range []acceptor.Ask{prepare(0, 1, 6), accept(0, 1, 5, "b"), accept(0, 1, 9, "b"), learn(0, 1, "c"), learn(0, 2, "c")} {
		for fuse := range 2 {
			for _, choice := range []int{0, 1, 2} {
				a := mustNew(t, 8)
				checkAsk(t, a, prepare(0, 1, 5), told(api.OK, 1, 5, 0, ""))
				a.Cut(fuse)
				checkNothing(t, a, askBytes(broken))
				checkStart(t, a, []int{choice})
				for _, q := range []acceptor.Ask{prepare(0, 1, 5), prepare(0, 1, 4), accept(0, 1, 4, "a"), accept(0, 1, 1, "c")} {
					if x := ask(t, a, q); x.E != api.ErrStale || x.Promised < 5 {
						t.Errorf("%v behind %v: %v", shortAsk(q), shortAsk(broken), x)
					}
				}
			}
		}
	}
}

// TestLearnedStays: whatever is asked behind a Learn, it is told.
func TestLearnedStays(t *testing.T) {
	r := rand.New(rand.NewPCG(80, 6))
	for range 100 {
		a := mustNew(t, 40)
		for range r.IntN(3) {
			ask(t, a, proposal(r))
		}
		value := string(ask(t, a, learn(0, 1, "learned")).Value)
		for range 60 {
			befall(r, a)
			if q := anyAsk(r); len(a.Ask(askBytes(q))) == 0 {
				start(t, r, a)
			}
			if !a.Up() {
				start(t, r, a)
			}
			a.Cut(-1)
			if x := ask(t, a, learn(0, 1, "other")); x.E != api.OK || !x.Learned || string(x.Value) != value {
				t.Fatalf("%v, though %s was learned", shortAnswer(x), value)
			}
		}
	}
}
