package register_test

import (
	"slices"
	"strconv"
	"testing"

	"gazette/acceptor"
	"gazette/api"
	"gazette/register"
)

// prepares has a Prepare of each ballot to all.
func prepares(l *register.Link, ballots ...int) []sent {
	var all []sent
	for _, ballot := range ballots {
		all = append(all, toAll(l, prepare(1, ballot))...)
	}
	return all
}

// TestFourTurns: nobody answers: the rounds go up one by one, and behind the fourth one it is over.
func TestFourTurns(t *testing.T) {
	for _, id := range []int{0, 1, 15} {
		for _, acceptors := range []int{1, 2, 3, api.MaxNodes} {
			l := mustLink(t, acceptors)
			luck(l, comes, acceptors, late, 5*acceptors)
			checkSwap(t, l, key, id, 0, "a", api.ErrLost)
			checkLate(t, l, prepares(l, id+1, id+17, id+33, id+49)...)
			checkLeft(t, l, acceptors)
		}
	}
}

// TestTurnsOfRead: they begin with the round 0, too.
func TestTurnsOfRead(t *testing.T) {
	l := mustLink(t, 3)
	lay(t, l, 1, accept(1, 5, "a"))
	luck(l, comes, 3, late, 15)
	checkNoRead(t, l, key, 3, api.ErrLost)
	checkLate(t, l, prepares(l, 4, 20, 36, 52)...)
	checkLeft(t, l, 3)
}

// TestTurnsWithoutAMajority: too few promise, or too few accept; the fourth turn may be the one.
func TestTurnsWithoutAMajority(t *testing.T) {
	for _, acceptors := range []int{1, 2, 3, 4, 5, api.MaxNodes} {
		for fails := range 5 {
			for _, promised := range []bool{false, true} {
				l := mustLink(t, acceptors)
				want := luckOfTurns(l, fails, promised)
				checkSwap(t, l, key, 0, 0, "a", want)
				checkLeft(t, l, 0)
				if want == api.OK || promised {
					checkRead(t, l, key, 0, 1, "a")
				} else {
					checkRead(t, l, key, 0, 0, "")
				}
			}
		}
	}
}

// luckOfTurns lays the luck of a Swap of which so many turns fail, just so, behind a majority of promises or without it, and the next one does not, just so.
func luckOfTurns(l *register.Link, fails int, promised bool) api.Errno {
	all := len(l.Acceptors)
	few, many := all/2, all/2+1
	luck(l, comes, all)
	for range fails {
		if promised {
			luck(l, comes, many, lost, all-many)
		}
		luck(l, comes, few, unanswered, all-few)
	}
	if fails == 4 {
		return api.ErrLost
	}
	luck(l, comes, many, lost, all-many, comes, many, lost, all-many, lost, all)
	return api.OK
}

// TestAllTwice: a Prepare that comes twice is refused the second time: no turn is left.
func TestAllTwice(t *testing.T) {
	l := mustLink(t, 3)
	luck(l, twice, 16)
	checkSwap(t, l, key, 2, 0, "a", api.ErrLost)
	checkLeft(t, l, 1)
	for i := range l.Acceptors {
		checkKnown(t, l, i, 1, 51, 0, "")
	}
	l = mustLink(t, 3)
	luck(l, twice, 4, comes, 2, twice, 6, late, 1)
	checkSwap(t, l, key, 3, 0, "a", api.OK)
	checkLeft(t, l, 1)
	for i := range l.Acceptors {
		checkLearned(t, l, i, 1, 4, 4, "a")
	}
}

// TestRoundBehindRefusals: two of three refuse with other promises: the greater one counts.
func TestRoundBehindRefusals(t *testing.T) {
	for _, c := range []struct{ promised, round int }{
		{16, 1}, {17, 2}, {32, 2}, {33, 3}, {48, 3}, {49, 4}, {1 << 40, 1 << 36}, {1<<40 + 1, 1<<36 + 1}, {api.MaxNumber - 64, 1<<44 - 4},
	} {
		for place := range 3 {
			for _, id := range []int{0, 7, 15} {
				l := mustLink(t, 3)
				for i := range l.Acceptors {
					if i == place {
						lay(t, l, i, prepare(1, c.promised))
					} else {
						lay(t, l, i, prepare(1, 16))
					}
				}
				luck(l, comes, 6, late, 9)
				checkSwap(t, l, key, id, 0, "a", api.ErrLost)
				first := 16*c.round + id + 1
				checkLate(t, l, prepares(l, first, first+16, first+32)...)
				checkLeft(t, l, 0)
			}
		}
	}
}

// TestRoundBehindAnyAnswer: answers that are OK tell their promise, too, and it is one's own.
func TestRoundBehindAnyAnswer(t *testing.T) {
	l := mustLink(t, 3)
	luck(l, comes, 4, lost, 2, late, 9)
	checkSwap(t, l, key, 5, 0, "a", api.ErrLost)
	checkLate(t, l, prepares(l, 22, 38, 54)...)
	checkKnown(t, l, 0, 1, 6, 0, "")
}

// TestRoundNeverFalls: behind round 63 answers that tell less, or none, lead to 64.
func TestRoundNeverFalls(t *testing.T) {
	l := mustLink(t, 3)
	lay(t, l, 0, prepare(1, 1000))
	luck(l, comes, 4, lost, 2) // round 0: only the acceptor 0 answers: 1000 is of the round 62
	luck(l, lost, 2, comes, 1) // round 63: only the acceptor 2 answers
	luck(l, late, 6)           // rounds 64, 65
	checkSwap(t, l, key, 0, 0, "a", api.ErrLost)
	checkLate(t, l, prepares(l, 64*16+1, 65*16+1)...)
	checkKnown(t, l, 0, 1, 1000, 0, "")
	checkKnown(t, l, 1, 1, 0, 0, "")
	checkKnown(t, l, 2, 1, 63*16+1, 0, "")
}

// TestRoundBehindARefusedAccept: what an Accept is told counts as well, even where no Prepare was.
func TestRoundBehindARefusedAccept(t *testing.T) {
	l := mustLink(t, 3)
	lay(t, l, 2, prepare(1, 100))
	luck(l, comes, 5, lost, 1) // the acceptor 2 is not heard of
	luck(l, lost, 1, comes, 2) // an Accept is OK, one is refused
	luck(l, late, 9)           // behind 100: the round 7
	checkSwap(t, l, key, 4, 0, "a", api.ErrLost)
	checkLate(t, l, prepares(l, 16*7+5, 16*8+5, 16*9+5)...)
	checkKnown(t, l, 0, 1, 5, 0, "")
	checkKnown(t, l, 1, 1, 5, 5, "a")
	checkKnown(t, l, 2, 1, 100, 0, "")
}

// TestRoundBehindAPrepareOfAnAccept: the promises of the Prepare count where the Accept tells less.
func TestRoundBehindAPrepareOfAnAccept(t *testing.T) {
	l := mustLink(t, 3)
	lay(t, l, 0, prepare(1, 100))
	luck(l, comes, 6)          // the acceptor 0 refuses, and tells 100
	luck(l, lost, 2, comes, 1) // one accepts
	luck(l, late, 9)
	checkSwap(t, l, key, 4, 0, "a", api.ErrLost)
	checkLate(t, l, prepares(l, 16*7+5, 16*8+5, 16*9+5)...)
}

// TestBallotsThatAreUsedUp: behind the greatest promise there is no ballot: nothing is sent any more.
func TestBallotsThatAreUsedUp(t *testing.T) {
	for _, c := range []struct{ promised, id, turns int }{
		{api.MaxNumber - 1, 0, 0},
		{api.MaxNumber - 1, 15, 0},
		{api.MaxNumber - 15, 0, 0},
		{api.MaxNumber - 16, 14, 1},
		{api.MaxNumber - 16, 15, 0},
		{api.MaxNumber - 32, 14, 2},
		{api.MaxNumber - 32, 15, 1},
		{api.MaxNumber - 48, 0, 3},
		{api.MaxNumber - 48, 15, 2},
	} {
		l := mustLink(t, 3)
		for i := range l.Acceptors {
			lay(t, l, i, prepare(1, c.promised))
		}
		luck(l, comes, 6, late, 3*c.turns+1)
		checkSwap(t, l, key, c.id, 0, "a", api.ErrLost)
		if l.Net.Late() != 3*c.turns || l.Net.Left() != 1 {
			t.Errorf("behind %d of the id %d: late %d, left %d", c.promised, c.id, l.Net.Late(), l.Net.Left())
		}
	}
	l := mustLink(t, 1)
	lay(t, l, 0, prepare(1, api.MaxNumber-16))
	checkSwap(t, l, key, 14, 0, "a", api.OK)
	checkLearned(t, l, 0, 1, api.MaxNumber-1, api.MaxNumber-1, "a")
}

// TestLearnedEndsATurn: one answer tells it, whether it is OK, and whether others are.
func TestLearnedEndsATurn(t *testing.T) {
	for place := range 5 {
		for _, promised := range []int{0, 3, 50} {
			for _, others := range []int{lost, comes} {
				l := mustLink(t, 5)
				if promised > 0 {
					lay(t, l, place, prepare(1, promised))
				}
				lay(t, l, place, learn(1, "a"))
				for i := range l.Acceptors {
					if i != place {
						lay(t, l, i, accept(1, 4, "b"))
					}
				}
				queries := slices.Repeat([]int{comes}, 5)
				queries[place] = lost
				turn := slices.Repeat([]int{others}, 5)
				turn[place] = comes
				l.Net.Luck(slices.Concat(queries, turn, slices.Repeat([]int{late}, 6)))
				checkRead(t, l, key, 9, 1, "a")
				checkLate(t, l, toAll(l, learn(1, "a"))...)
				checkLeft(t, l, 1)
			}
		}
	}
}

// TestLearnGoesToAll: what was agreed on is told to all, and what they say counts for nothing.
func TestLearnGoesToAll(t *testing.T) {
	for _, kind := range []int{comes, lost, unanswered, late, twice} {
		l := mustLink(t, 3)
		luck(l, comes, 9, kind, 3, late, 1)
		checkSwap(t, l, key, 0, 0, "a", api.OK)
		checkLeft(t, l, 1)
		calm(l)
		for i := range l.Acceptors {
			x := straight(t, l.Acceptors[i], query())
			if x.Learned != (kind == comes || kind == unanswered || kind == twice) {
				t.Errorf("luck %d: the acceptor %d knows %s", kind, i, text(x))
			}
		}
		if kind == late {
			checkLate(t, l, toAll(l, learn(1, "a"))...)
		}
		checkRead(t, l, key, 1, 1, "a")
	}
}

// ballots are what three acceptors have accepted, each with its place as the value, and whose value is taken.
var ballots = []struct {
	of   [3]int
	want string
}{
	{[3]int{5, 0, 0}, "0"},
	{[3]int{0, 5, 0}, "1"},
	{[3]int{0, 0, 5}, "2"},
	{[3]int{5, 6, 7}, "2"},
	{[3]int{7, 6, 5}, "0"},
	{[3]int{6, 7, 5}, "1"},
	{[3]int{1, 0, 2}, "2"},
	{[3]int{5, 5, 0}, "0"}, // of equal ones the first
	{[3]int{0, 5, 5}, "1"},
	{[3]int{5, 5, 5}, "0"},
	{[3]int{4, 5, 5}, "1"},
	{[3]int{4, 16, 3}, "1"}, // one's own, of round 0
	{[3]int{32, 16, 33}, "2"},
	{[3]int{32, 31, 30}, "0"},
}

// TestGreatestAcceptedBallot: its value is taken, whoever's it is.
func TestGreatestAcceptedBallot(t *testing.T) {
	for _, c := range ballots {
		l := mustLink(t, 3)
		for i, ballot := range c.of {
			if ballot > 0 {
				lay(t, l, i, accept(1, ballot, strconv.Itoa(i)))
			}
		}
		luck(l, comes, 3)
		for turn := range 3 { // Till all promise none is heard, so that each of them counts.
			if slices.Max(c.of[:]) > 16*turn+15 {
				luck(l, lost, 3)
			}
		}
		checkRead(t, l, key, 15, 1, c.want)
		checkLeft(t, l, 0)
		for i := range l.Acceptors {
			if x := straight(t, l.Acceptors[i], query()); !x.Learned || string(x.Value) != c.want {
				t.Errorf("%v: the acceptor %d knows %s", c.of, i, text(x))
			}
		}
	}
}

// TestGreatestAcceptedBallotOfASwap: the wanted value is taken only where nothing was accepted. Who has accepted something is not heard of by the Read.
func TestGreatestAcceptedBallotOfASwap(t *testing.T) {
	for _, c := range ballots {
		l := mustLink(t, 7)
		queries := slices.Repeat([]int{comes}, 7)
		for i, ballot := range c.of {
			if ballot > 0 {
				lay(t, l, 2*i, accept(1, ballot, strconv.Itoa(i)))
			}
			queries[2*i] = lost
		}
		l.Net.Luck(queries)
		for turn := range 3 {
			if slices.Max(c.of[:]) > 16*turn+15 {
				luck(l, lost, 7)
			}
		}
		checkSwap(t, l, key, 15, 0, "wanted", api.ErrStale)
		checkRead(t, l, key, 0, 1, c.want)
	}
	l := mustLink(t, 7)
	for i := range l.Acceptors {
		lay(t, l, i, prepare(1, 2*i+1))
	}
	checkSwap(t, l, key, 15, 0, "wanted", api.OK)
	checkRead(t, l, key, 0, 1, "wanted")
}

// TestAcceptedOfARefusal: the value of an answer that is not OK does not count, but that there is one does, where none else is.
func TestAcceptedOfARefusal(t *testing.T) {
	l := mustLink(t, 5)
	lay(t, l, 0, accept(1, 90, "x"), prepare(1, 100))
	lay(t, l, 3, accept(1, 2, "y"))
	luck(l, lost, 1, comes, 2, lost, 1, comes, 1)
	checkSwap(t, l, key, 4, 0, "wanted", api.ErrStale)
	checkLearned(t, l, 0, 1, 100, 90, "y")
	checkLearned(t, l, 1, 1, 5, 5, "y")

	l = mustLink(t, 5)
	lay(t, l, 0, accept(1, 90, "x"), prepare(1, 100))
	luck(l, lost, 1, comes, 4)
	checkSwap(t, l, key, 4, 0, "wanted", api.OK)
	checkLearned(t, l, 1, 1, 5, 5, "wanted")

	l = mustLink(t, 5)
	lay(t, l, 4, accept(1, 90, "x"), prepare(1, 100))
	checkRead(t, l, key, 4, 1, "x")
	for i := range l.Acceptors {
		checkLearned(t, l, i, 1, 16*7+5, 16*7+5, "x")
	}
}

// TestNothingWanted: without a value a Read ends at once, unless some answer of that Prepare has one.
func TestNothingWanted(t *testing.T) {
	l := mustLink(t, 3)
	lay(t, l, 0, accept(1, 90, "x"), prepare(1, 100))
	luck(l, comes, 6)                   // refused, with something accepted: once more
	luck(l, lost, 1, comes, 2, late, 9) // silent
	checkNoRead(t, l, key, 4, api.ErrLost)
	checkLeft(t, l, 9)
	checkKnown(t, l, 0, 1, 100, 90, "x")
	checkKnown(t, l, 1, 1, 16*7+5, 0, "")

	l = mustLink(t, 3)
	lay(t, l, 0, accept(1, 5, "x"))
	luck(l, comes, 3)
	for range 4 {
		luck(l, twice, 1, comes, 2) // The second time it is refused.
	}
	luck(l, late, 1)
	checkNoRead(t, l, key, 9, api.ErrLost)
	checkLeft(t, l, 1)
	for i := range l.Acceptors {
		if i == 0 {
			checkKnown(t, l, i, 1, 58, 5, "x")
		} else {
			checkKnown(t, l, i, 1, 58, 0, "")
		}
	}
	calm(l)
	checkRead(t, l, key, 9, 1, "x")
}

// TestNothingWantedAndTooFew: without a majority there is a next turn, even where no answer has a value.
func TestNothingWantedAndTooFew(t *testing.T) {
	l := mustLink(t, 3)
	lay(t, l, 0, accept(1, 5, "x"))
	luck(l, comes, 3, lost, 2, comes, 1, lost, 3)
	checkRead(t, l, key, 9, 1, "x")
	for i := range l.Acceptors {
		checkLearned(t, l, i, 1, 42, 42, "x")
	}
}

// TestFullAcceptorsInATurn: an answer of a full one is none that is OK, but tells what is learned.
func TestFullAcceptorsInATurn(t *testing.T) {
	l := mustLink(t, 3)
	for i := range l.Acceptors {
		l.Acceptors[i] = mustAcceptor(t, 1)
	}
	lay(t, l, 0, accept(1, 5, "a"))
	checkNoRead(t, l, key, 9, api.ErrLost)
	checkKnown(t, l, 1, 1, 10, 0, "")
	l.Acceptors[2] = mustAcceptor(t, 1)
	lay(t, l, 2, learn(1, "b"))
	luck(l, comes, 2, lost, 1)
	checkRead(t, l, key, 9, 1, "b")
	for i, want := range []acceptor.Answer{told(api.OK, 1, 5, 5, "a"), told(api.OK, 0, 0, 0, ""), learned(api.OK, 1, 0, 1, "b")} {
		if x := straight(t, l.Acceptors[i], query()); !sameAnswer(x, want) {
			t.Errorf("the acceptor %d knows %s", i, text(x))
		}
	}
}
