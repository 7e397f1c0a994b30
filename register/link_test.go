package register_test

import (
	"math"
	"testing"

	"gazette/acceptor"
	"gazette/api"
	"gazette/net"
	"gazette/register"
)

// checkRefused makes every call of a register with arguments that may be, but for the link.
func checkRefused(t *testing.T, l *register.Link) {
	t.Helper()
	for range 2 {
		checkNoRead(t, l, key, 0, api.ErrArg)
		checkNoRead(t, l, -1, 16, api.ErrArg)
		checkSwap(t, l, key, 0, 0, "a", api.ErrArg)
		checkSwap(t, l, key, 0, 1, "", api.ErrArg)
		checkSwap(t, l, key, 0, 0, string(make([]byte, maxValue+1)), api.ErrArg)
	}
}

// P901

func TestLinkWithoutANet(t *testing.T) {
	acceptors := mustLink(t, 3).Acceptors
	for _, l := range []*register.Link{nil, {}, {Net: new(net.Net)}, {Acceptors: acceptors}, {Net: &net.Net{}, Acceptors: acceptors}, {Net: new(net.Net), Acceptors: acceptors, Base: 1}} {
		for to := -1; to < 4; to++ {
			for _, a := range everyKind() {
				checkNoAnswer(t, l, to, a)
				checkDeliver(t, l, to, askBytes(a), false)
			}
			checkDeliver(t, l, to, nil, false)
		}
		checkRefused(t, l)
	}
	checkNothing(t, acceptors)
}

func TestLinkWithoutAcceptors(t *testing.T) {
	for _, acceptors := range [][]*acceptor.Acceptor{nil, {}} {
		l := &register.Link{Net: net.New(), Acceptors: acceptors, Base: 100}
		luck(l, late, 2)
		for _, to := range []int{-1, 0, 1, 100} {
			for _, a := range everyKind() {
				checkNoAnswer(t, l, to, a)
				checkDeliver(t, l, to, askBytes(a), false)
			}
		}
		checkRefused(t, l)
		checkLeft(t, l, 2)
		checkLate(t, l)
	}
}

// TestTooManyAcceptors: of more than MaxNodes nothing is agreed on, but each of them can be asked.
func TestTooManyAcceptors(t *testing.T) {
	l := mustLink(t, api.MaxNodes+1)
	luck(l, late, 1)
	checkRefused(t, l)
	checkLeft(t, l, 1)
	checkLate(t, l)
	calm(l)
	checkAsk(t, l, api.MaxNodes, prepare(1, 5), told(api.OK, 1, 5, 0, ""))
	checkDeliver(t, l, 100+api.MaxNodes, askBytes(prepare(1, 6)), true)
	checkKnown(t, l, api.MaxNodes, 1, 6, 0, "")
	checkNothing(t, l.Acceptors[:api.MaxNodes])
	l.Acceptors = l.Acceptors[:api.MaxNodes]
	checkSwap(t, l, key, 0, 0, "a", api.OK)
	checkRead(t, l, key, 15, 1, "a")
}

// TestAcceptorsThatNeverAnswer: to one that is nil messages are sent, as to any other.
func TestAcceptorsThatNeverAnswer(t *testing.T) {
	for _, a := range []*acceptor.Acceptor{nil, {}, new(acceptor.Acceptor)} {
		l := mustLink(t, 3)
		l.Acceptors[1] = a
		l.Net.Luck([]int{comes, lost, unanswered, late, twice})
		for left := 4; left >= 0; left-- {
			checkNoAnswer(t, l, 1, prepare(1, 5))
			checkLeft(t, l, left)
		}
		checkLate(t, l, sent{1, prepare(1, 5)})
		checkComes(t, l, 0)
		checkDeliver(t, l, 101, nil, true)
		checkSwap(t, l, key, 0, 0, "a", api.OK)
		checkRead(t, l, key, 1, 1, "a")
		l.Acceptors = l.Acceptors[:2]
		checkNoRead(t, l, key, 1, api.ErrLost)
		checkSwap(t, l, key, 0, 1, "b", api.ErrLost)
		l.Acceptors = l.Acceptors[1:]
		checkNoRead(t, l, key, 1, api.ErrLost)
		checkSwap(t, l, key, 0, 1, "b", api.ErrLost)
		if a.Up() {
			t.Error("the acceptor is up")
		}
	}
}

// roomy answers a value with room behind it that is not zeros.
func roomy(value string) []byte {
	b := []byte(value + "room behind")
	return b[:len(value)]
}

// spoil checks that b and its room are as roomy made them, and writes over them.
func spoil(t *testing.T, b []byte, value string) {
	t.Helper()
	whole := b[:len(value)+len("room behind")]
	if string(whole) != value+"room behind" {
		t.Errorf("what was handed in is %q now", whole)
	}
	overwrite(b)
}

func overwrite(b []byte) {
	b = b[:cap(b)]
	for i := range b {
		b[i] = 170
	}
}

func TestWhatIsHandedInIsNotKept(t *testing.T) {
	l := mustLink(t, 3)
	value := roomy("ab")
	luck(l, comes, 6, comes, 1, twice, 1, late, 1)
	if e := register.Swap(l, key, 0, 0, value); e != api.OK {
		t.Errorf("Swap: %d", e)
	}
	spoil(t, value, "ab")
	checkComes(t, l, 0)
	for i := range l.Acceptors {
		checkLearned(t, l, i, 1, 1, 1, "ab")
	}

	value = roomy("cd")
	luck(l, late, 1)
	checkNoAnswer(t, l, 0, acceptor.Ask{Kind: acceptor.Accept, Key: key, Version: 2, Ballot: 9, Value: value})
	checkAsk(t, l, 1, acceptor.Ask{Kind: acceptor.Accept, Key: key, Version: 2, Ballot: 9, Value: value}, told(api.OK, 2, 9, 9, "cd"))
	spoil(t, value, "cd")
	checkComes(t, l, 0)
	checkKnown(t, l, 0, 2, 9, 9, "cd")
	checkKnown(t, l, 1, 2, 9, 9, "cd")

	message := roomy(string(askBytes(accept(2, 9, "cd"))))
	checkDeliver(t, l, 102, message, true)
	spoil(t, message, string(askBytes(accept(2, 9, "cd"))))
	checkKnown(t, l, 2, 2, 9, 9, "cd")
	checkRead(t, l, key, 3, 2, "cd")
	if len(l.Acceptors) != 3 || l.Base != 100 {
		t.Errorf("the link has %d acceptors, from %d on", len(l.Acceptors), l.Base)
	}
}

func TestWhatIsAnsweredIsNewMemory(t *testing.T) {
	for _, accepted := range []bool{false, true} {
		l := mustLink(t, 1)
		if accepted {
			lay(t, l, 0, accept(1, 1, "abc"))
		} else {
			lay(t, l, 0, learn(1, "abc"))
		}
		_, first, _ := register.Read(l, key, 0)
		_, second, _ := register.Read(l, key, 0)
		third, _ := l.Ask(0, query())
		fourth, _ := l.Ask(0, query())
		overwrite(first)
		overwrite(third.Value)
		if string(second) != "abc" || string(fourth.Value) != "abc" {
			t.Errorf("an answer has changed with another one: %q, %q", second, fourth.Value)
		}
		checkRead(t, l, key, 0, 1, "abc")
		checkSwap(t, l, key, 0, 1, "d", api.OK)
	}
}

// P902

func TestAsk(t *testing.T) {
	l := mustLink(t, 3)
	checkAsk(t, l, 1, query(), told(api.OK, 0, 0, 0, ""))
	checkAsk(t, l, 1, prepare(1, 5), told(api.OK, 1, 5, 0, ""))
	checkAsk(t, l, 1, prepare(1, 5), told(api.ErrStale, 1, 5, 0, ""))
	checkAsk(t, l, 1, accept(1, 4, "a"), told(api.ErrStale, 1, 5, 0, ""))
	checkAsk(t, l, 1, accept(1, 5, "a"), told(api.OK, 1, 5, 5, "a"))
	checkAsk(t, l, 1, query(), told(api.OK, 1, 5, 5, "a"))
	checkAsk(t, l, 1, learn(1, "a"), learned(api.OK, 1, 5, 5, "a"))
	checkAsk(t, l, 1, accept(1, 9, "b"), learned(api.ErrStale, 1, 5, 5, "a"))
	checkAsk(t, l, 2, learn(3, string(make([]byte, maxValue))), learned(api.OK, 3, 0, 1, string(make([]byte, maxValue))))
	checkAsk(t, l, 0, query(), told(api.OK, 0, 0, 0, ""))
}

func TestAskOfAFullAcceptor(t *testing.T) {
	l := mustLink(t, 2)
	l.Acceptors[1] = mustAcceptor(t, 1)
	checkAsk(t, l, 1, prepare(1, 5), told(api.OK, 1, 5, 0, ""))
	checkAsk(t, l, 1, prepare(1, 6), told(api.ErrFull, 1, 5, 0, ""))
}

func TestLuckOfAsk(t *testing.T) {
	for _, c := range []struct {
		luck          int
		answers, done bool
	}{
		{luck: comes, answers: true, done: true},
		{luck: lost},
		{luck: unanswered, done: true},
		{luck: late},
		{luck: twice, answers: true, done: true},
		{luck: -1, answers: true, done: true},
		{luck: 11},
	} {
		l := mustLink(t, 2)
		l.Net.Luck([]int{c.luck})
		if c.answers {
			checkAsk(t, l, 1, accept(1, 5, "a"), told(api.OK, 1, 5, 5, "a"))
		} else {
			checkNoAnswer(t, l, 1, accept(1, 5, "a"))
		}
		if x := straight(t, l.Acceptors[1], query()); (x.Ballot == 5) != c.done {
			t.Errorf("with the luck %d it is done: %v", c.luck, !c.done)
		}
		if c.luck == late {
			checkLate(t, l, sent{1, accept(1, 5, "a")})
		} else {
			checkLate(t, l)
		}
		checkLeft(t, l, 0)
		checkNothing(t, l.Acceptors[:1])
	}
}

// TestLastAnswer: of an Ask that comes twice the second answer is told.
func TestLastAnswer(t *testing.T) {
	l := mustLink(t, 1)
	luck(l, twice, 1)
	checkAsk(t, l, 0, prepare(1, 5), told(api.ErrStale, 1, 5, 0, ""))
}

func TestAskThatSendsNothing(t *testing.T) {
	l := mustLink(t, 3)
	l.Net.Luck([]int{late, comes, late})
	was := world(l)
	for _, to := range []int{math.MinInt, -100, -3, -1, 3, 4, 100, 101, math.MaxInt} {
		for _, a := range everyKind() {
			checkNoAnswer(t, l, to, a)
		}
	}
	for _, a := range []acceptor.Ask{
		{},
		{Kind: -1},
		{Kind: 5},
		{Kind: acceptor.Query, Key: -1},
		{Kind: acceptor.Query, Key: api.MaxNumber},
		{Kind: acceptor.Query, Version: 1},
		{Kind: acceptor.Query, Value: []byte("a")},
		{Kind: acceptor.Prepare, Ballot: 1},
		{Kind: acceptor.Prepare, Version: -1, Ballot: 1},
		{Kind: acceptor.Prepare, Version: api.MaxNumber, Ballot: 1},
		{Kind: acceptor.Prepare, Version: 1},
		{Kind: acceptor.Prepare, Version: 1, Ballot: -1},
		{Kind: acceptor.Accept, Version: 1, Ballot: api.MaxNumber},
		{Kind: acceptor.Accept, Version: 1, Ballot: 1, Value: make([]byte, maxValue+1)},
		{Kind: acceptor.Learn, Version: 1, Ballot: 1},
	} {
		for to := range 3 {
			checkNoAnswer(t, l, to, a)
		}
	}
	checkWorld(t, l, was)
	checkNothing(t, l.Acceptors)
}

func TestAskOfAnAcceptorWithoutPower(t *testing.T) {
	for _, kind := range []int{comes, lost, unanswered, late, twice} {
		l := mustLink(t, 1)
		luck(l, kind, 1)
		l.Acceptors[0].Stop()
		checkNoAnswer(t, l, 0, prepare(1, 5))
		checkLeft(t, l, 0)
		l.Acceptors[0].Start(nil)
		checkNothing(t, l.Acceptors)
	}
	for fuse := range 2 {
		for _, kind := range []int{comes, twice} {
			l := mustLink(t, 1)
			luck(l, kind, 1)
			l.Acceptors[0].Cut(fuse)
			checkNoAnswer(t, l, 0, prepare(1, 5))
			if l.Acceptors[0].Up() {
				t.Error("the acceptor is up")
			}
			l.Acceptors[0].Start(nil)
			checkAsk(t, l, 0, prepare(1, 5), told(api.OK, 1, 5, 0, ""))
		}
	}
}

// TestBase: messages have numbers from Base on, whatever it is.
func TestBase(t *testing.T) {
	for _, base := range []int{0, 1, 100, -1, -2, -100, math.MaxInt - 2, math.MinInt} {
		l := mustLink(t, 3)
		l.Base = base
		luck(l, late, 3)
		for to := range 3 {
			checkNoAnswer(t, l, to, prepare(1, 5+to))
		}
		for to := range 3 {
			if number, _, _ := l.Net.Message(to); number != base+to {
				t.Errorf("with the Base %d the message to %d is to %d", base, to, number)
			}
		}
		for _, k := range []int{2, 0, 0} {
			checkComes(t, l, k)
		}
		for to := range 3 {
			checkKnown(t, l, to, 1, 5+to, 0, "")
		}
		for _, off := range []int{math.MinInt, -4, -3, -2, -1, 3, 4, math.MaxInt} {
			checkDeliver(t, l, base+off, askBytes(prepare(1, 50)), false)
		}
		for to := range 3 {
			checkKnown(t, l, to, 1, 5+to, 0, "")
		}
		checkSwap(t, l, key, 0, 0, "a", api.OK)
		checkRead(t, l, key, 1, 1, "a")
	}
}

// TestBaseWithoutASum: numbers do not wrap round: to an acceptor that has none nothing is sent.
func TestBaseWithoutASum(t *testing.T) {
	l := mustLink(t, 3)
	l.Base = math.MaxInt - 1
	luck(l, late, 3)
	checkNoAnswer(t, l, 2, prepare(1, 5))
	checkLeft(t, l, 3)
	for _, to := range []int{math.MinInt, math.MinInt + 1, 2, 0, -1} {
		checkDeliver(t, l, to, askBytes(prepare(1, 5)), false)
	}
	calm(l)
	checkDeliver(t, l, math.MaxInt, askBytes(prepare(2, 5)), true)
	checkSwap(t, l, key, 0, 0, "a", api.OK)
	checkNothing(t, l.Acceptors[2:])
	l.Base++
	checkNoRead(t, l, key, 0, api.ErrLost)
}

func TestDeliver(t *testing.T) {
	l := mustLink(t, 3)
	checkDeliver(t, l, 101, askBytes(accept(1, 5, "a")), true)
	checkKnown(t, l, 1, 1, 5, 5, "a")
	checkDeliver(t, l, 101, askBytes(accept(1, 5, "a")), true)
	checkDeliver(t, l, 101, askBytes(prepare(1, 4)), true)
	checkKnown(t, l, 1, 1, 5, 5, "a")
	for _, b := range [][]byte{nil, {}, []byte("x"), askBytes(prepare(1, 6))[1:], make([]byte, 1<<17)} {
		for to := 100; to < 103; to++ {
			checkDeliver(t, l, to, b, true)
		}
		for _, to := range []int{math.MinInt, -1, 0, 1, 99, 103, math.MaxInt} {
			checkDeliver(t, l, to, b, false)
			checkDeliver(t, l, to, askBytes(prepare(1, 6)), false)
		}
	}
	checkKnown(t, l, 1, 1, 5, 5, "a")
	checkNothing(t, []*acceptor.Acceptor{l.Acceptors[0], l.Acceptors[2]})
}

// TestDeliverIsNotSent: it takes no luck, and nothing of what is late.
func TestDeliverIsNotSent(t *testing.T) {
	l := mustLink(t, 2)
	l.Net.Luck([]int{late, lost, twice})
	checkNoAnswer(t, l, 0, prepare(1, 5))
	checkDeliver(t, l, 100, askBytes(prepare(1, 7)), true)
	checkLeft(t, l, 2)
	checkLate(t, l, sent{0, prepare(1, 5)})
	checkKnown(t, l, 0, 1, 7, 0, "")
	l.Net.Double(0)
	checkComes(t, l, 1)
	checkComes(t, l, 0)
	checkKnown(t, l, 0, 1, 7, 0, "")
}

func TestDeliverWithoutPower(t *testing.T) {
	l := mustLink(t, 1)
	for _, stop := range []func(){l.Acceptors[0].Stop, func() { l.Acceptors[0].Cut(0) }} {
		stop()
		checkDeliver(t, l, 100, askBytes(prepare(1, 5)), true)
		if l.Acceptors[0].Up() {
			t.Error("the acceptor is up")
		}
		checkDeliver(t, l, 100, askBytes(prepare(1, 5)), true)
		l.Acceptors[0].Start(nil)
	}
	checkNothing(t, l.Acceptors)
}
