package register_test

import (
	"fmt"
	"slices"
	"strings"
	"testing"

	"gazette/acceptor"
	"gazette/api"
	"gazette/net"
	"gazette/register"
)

const (
	key      = 7
	maxValue = 4000

	// What becomes of a message.
	comes      = 0
	lost       = 1
	unanswered = 2
	late       = 3
	twice      = 4
)

func prepare(version, ballot int) acceptor.Ask {
	return acceptor.Ask{Kind: acceptor.Prepare, Key: key, Version: version, Ballot: ballot}
}

func accept(version, ballot int, value string) acceptor.Ask {
	return acceptor.Ask{Kind: acceptor.Accept, Key: key, Version: version, Ballot: ballot, Value: []byte(value)}
}

func learn(version int, value string) acceptor.Ask {
	return acceptor.Ask{Kind: acceptor.Learn, Key: key, Version: version, Value: []byte(value)}
}

func query() acceptor.Ask { return acceptor.Ask{Kind: acceptor.Query, Key: key} }

// everyKind has an Ask of each kind.
func everyKind() []acceptor.Ask {
	return []acceptor.Ask{prepare(1, 5), accept(1, 5, "a"), learn(1, "a"), query()}
}

func mustAcceptor(t *testing.T, blocks int) *acceptor.Acceptor {
	t.Helper()
	a, e := acceptor.New(blocks)
	if a == nil || e != api.OK {
		t.Fatalf("New(%d): %v, %d", blocks, a, e)
	}
	return a
}

func mustLink(t *testing.T, acceptors int) *register.Link {
	t.Helper()
	l := &register.Link{Net: net.New(), Base: 100}
	for range acceptors {
		l.Acceptors = append(l.Acceptors, mustAcceptor(t, 200))
	}
	return l
}

func askBytes(a acceptor.Ask) []byte {
	b, e := acceptor.PutAsk(a)
	if e != api.OK {
		panic(fmt.Sprint("no bytes of ", a, e))
	}
	return b
}

// straight asks an acceptor without a net.
func straight(t *testing.T, a *acceptor.Acceptor, ask acceptor.Ask) acceptor.Answer {
	t.Helper()
	x, e := acceptor.GetAnswer(a.Ask(askBytes(ask)))
	if e != api.OK {
		t.Fatalf("%v is not answered", shortAsk(ask))
	}
	return x
}

// lay brings an acceptor to know something, without a net.
func lay(t *testing.T, l *register.Link, i int, asks ...acceptor.Ask) {
	t.Helper()
	for _, a := range asks {
		if x := straight(t, l.Acceptors[i], a); x.E != api.OK {
			t.Fatalf("%v: %d", shortAsk(a), x.E)
		}
	}
}

func shortAsk(a acceptor.Ask) string {
	return fmt.Sprintf("kind %d key %d version %d ballot %d %.20q", a.Kind, a.Key, a.Version, a.Ballot, a.Value)
}

func told(e api.Errno, version, promised, ballot int, value string) acceptor.Answer {
	return acceptor.Answer{E: e, Version: version, Promised: promised, Ballot: ballot, Value: []byte(value)}
}

func learned(e api.Errno, version, promised, ballot int, value string) acceptor.Answer {
	x := told(e, version, promised, ballot, value)
	x.Learned = true
	return x
}

func text(a acceptor.Answer) string {
	return fmt.Sprintf("E %d version %d promised %d ballot %d learned %v %.20q (%d)", a.E, a.Version, a.Promised, a.Ballot, a.Learned, a.Value, len(a.Value))
}

func sameAnswer(a, b acceptor.Answer) bool {
	return text(a) == text(b) && string(a.Value) == string(b.Value)
}

func checkAsk(t *testing.T, l *register.Link, to int, a acceptor.Ask, want acceptor.Answer) {
	t.Helper()
	if x, ok := l.Ask(to, a); !sameAnswer(x, want) || !ok {
		t.Errorf("Ask(%d, %s): %s, %v, not %s", to, shortAsk(a), text(x), ok, text(want))
	}
}

func checkNoAnswer(t *testing.T, l *register.Link, to int, a acceptor.Ask) {
	t.Helper()
	if x, ok := l.Ask(to, a); !sameAnswer(x, acceptor.Answer{}) || ok {
		t.Errorf("Ask(%d, %s): %s, %v, and there is no answer", to, shortAsk(a), text(x), ok)
	}
}

func checkDeliver(t *testing.T, l *register.Link, to int, b []byte, want bool) {
	t.Helper()
	if ok := l.Deliver(to, b); ok != want {
		t.Errorf("Deliver(%d, %d bytes): %v, not %v", to, len(b), ok, want)
	}
}

// checkComes lets the late message k come.
func checkComes(t *testing.T, l *register.Link, k int) {
	t.Helper()
	to, b, ok := l.Net.Take(k)
	if !ok || !l.Deliver(to, b) {
		t.Errorf("the late message %d does not come: it is to %d, %v", k, to, ok)
	}
}

func checkRead(t *testing.T, l *register.Link, key, id, version int, value string) {
	t.Helper()
	if n, v, e := register.Read(l, key, id); n != version || string(v) != value || e != api.OK {
		t.Errorf("Read(%d, %d): %d, %.20q, %d, not %d, %.20q", key, id, n, v, e, version, value)
	}
}

func checkNoRead(t *testing.T, l *register.Link, key, id int, want api.Errno) {
	t.Helper()
	if n, v, e := register.Read(l, key, id); n != 0 || len(v) != 0 || e != want {
		t.Errorf("Read(%d, %d): %d, %.20q, %d, not %d", key, id, n, v, e, want)
	}
}

func checkSwap(t *testing.T, l *register.Link, key, id, version int, value string, want api.Errno) {
	t.Helper()
	if e := register.Swap(l, key, id, version, []byte(value)); e != want {
		t.Errorf("Swap(%d, %d, %d, %.20q): %d, not %d", key, id, version, value, e, want)
	}
}

func checkLeft(t *testing.T, l *register.Link, want int) {
	t.Helper()
	if got := l.Net.Left(); got != want {
		t.Errorf("Left: %d, not %d", got, want)
	}
}

// luck lays so many numbers of each kind: luck(l, comes, 3, late, 2).
func luck(l *register.Link, kindsAndTimes ...int) {
	for i := 0; i < len(kindsAndTimes); i += 2 {
		l.Net.Luck(slices.Repeat(kindsAndTimes[i:i+1], kindsAndTimes[i+1]))
	}
}

// calm takes away all luck that waits, and leaves what is late.
func calm(l *register.Link) {
	was := l.Net.Late()
	for l.Net.Left() > 0 {
		l.Net.Send(-1, nil)
		l.Net.Take(was)
	}
}

// sent is a message, as the tests know it: to an acceptor, by its place.
type sent struct {
	to  int
	ask acceptor.Ask
}

// toAll has a message to each acceptor.
func toAll(l *register.Link, a acceptor.Ask) []sent {
	var all []sent
	for to := range l.Acceptors {
		all = append(all, sent{to, a})
	}
	return all
}

// checkLate looks at all late messages.
func checkLate(t *testing.T, l *register.Link, want ...sent) {
	t.Helper()
	if l.Net.Late() != len(want) {
		t.Errorf("Late: %d, not %d", l.Net.Late(), len(want))
	}
	for k, m := range want {
		to, b, _ := l.Net.Message(k)
		a, _ := acceptor.GetAsk(b)
		if to != l.Base+m.to || string(b) != string(askBytes(m.ask)) {
			t.Errorf("the late message %d is to %d, %s, not to %d, %s", k, to, shortAsk(a), l.Base+m.to, shortAsk(m.ask))
		}
	}
}

// checkKnown looks at what an acceptor knows of a version. It is left with a promise, if it had made none.
func checkKnown(t *testing.T, l *register.Link, i, version, promised, ballot int, value string) {
	t.Helper()
	got, want := straight(t, l.Acceptors[i], prepare(version, 1)), told(api.ErrStale, version, promised, ballot, value)
	if promised == 0 {
		want.E, want.Promised = api.OK, 1
	}
	if !sameAnswer(got, want) {
		t.Errorf("the acceptor %d knows %s, not %s", i, text(got), text(want))
	}
}

// checkLearned looks at what an acceptor knows of a version that it has learned.
func checkLearned(t *testing.T, l *register.Link, i, version, promised, ballot int, value string) {
	t.Helper()
	if got, want := straight(t, l.Acceptors[i], query()), learned(api.OK, version, promised, ballot, value); !sameAnswer(got, want) {
		t.Errorf("the acceptor %d knows %s, not %s", i, text(got), text(want))
	}
}

// checkNothing looks at acceptors that nobody has told anything.
func checkNothing(t *testing.T, acceptors []*acceptor.Acceptor) {
	t.Helper()
	for i, a := range acceptors {
		for version := 1; version < 3; version++ {
			if x := straight(t, a, prepare(version, 1)); !sameAnswer(x, told(api.OK, version, 1, 0, "")) {
				t.Errorf("the acceptor %d knows of the version %d: %s", i, version, text(x))
			}
		}
	}
}

// world tells whatever can be asked of a link's net, and of its acceptors without changing them.
func world(l *register.Link) string {
	var all strings.Builder
	fmt.Fprintln(&all, "luck", l.Net.Left())
	for k := range l.Net.Late() {
		to, b, _ := l.Net.Message(k)
		fmt.Fprintf(&all, "late %d %q\n", to, b)
	}
	for i, a := range l.Acceptors {
		fmt.Fprintln(&all, "acceptor", i, a.Up())
		for key := range 3 {
			fmt.Fprintf(&all, "%q\n", a.Ask(askBytes(acceptor.Ask{Kind: acceptor.Query, Key: key})))
		}
	}
	return all.String()
}

func checkWorld(t *testing.T, l *register.Link, want string) {
	t.Helper()
	if got := world(l); got != want {
		t.Errorf("there is\n%snot\n%s", got, want)
	}
}
