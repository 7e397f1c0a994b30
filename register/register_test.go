package register_test

import (
	"fmt"
	"math"
	"slices"
	"strings"
	"testing"

	"gazette/acceptor"
	"gazette/api"
	"gazette/register"
)

func TestExamples(t *testing.T) {
	l := mustLink(t, 3)
	checkRead(t, l, 0, 0, 0, "")
	checkSwap(t, l, 0, 0, 0, "a", api.OK)
	checkSwap(t, l, 0, 1, 0, "b", api.ErrStale)
	checkRead(t, l, 0, 1, 1, "a")
}

// P903, P904: arguments

func TestArgumentsThatMayNotBe(t *testing.T) {
	l := mustLink(t, 3)
	checkSwap(t, l, key, 0, 0, "a", api.OK)
	luck(l, late, 3)
	was := world(l)
	for _, k := range []int{math.MinInt, -1, api.MaxNumber, api.MaxNumber + 1, math.MaxInt} {
		checkNoRead(t, l, k, 0, api.ErrArg)
		checkSwap(t, l, k, 0, 0, "a", api.ErrArg)
	}
	for _, id := range []int{math.MinInt, -1, 16, 17, math.MaxInt} {
		checkNoRead(t, l, key, id, api.ErrArg)
		checkSwap(t, l, key, id, 1, "a", api.ErrArg)
	}
	for _, version := range []int{math.MinInt, -1, api.MaxNumber - 1, api.MaxNumber, math.MaxInt} {
		checkSwap(t, l, key, 0, version, "a", api.ErrArg)
	}
	for _, size := range []int{maxValue + 1, 1 << 16, 1 << 20} {
		checkSwap(t, l, key, 0, 1, string(make([]byte, size)), api.ErrArg)
		checkSwap(t, l, key, 0, 0, string(make([]byte, size)), api.ErrArg)
	}
	checkWorld(t, l, was)
}

func TestKeysAndIds(t *testing.T) {
	l := mustLink(t, 3)
	keys := []int{0, 1, key, api.MaxNumber - 1}
	for version, id := range []int{0, 1, 14, 15} {
		for _, k := range keys {
			checkSwap(t, l, k, id, version, fmt.Sprint(k, id), api.OK)
		}
		for _, k := range keys {
			checkRead(t, l, k, 15-id, version+1, fmt.Sprint(k, id))
		}
	}
	checkRead(t, l, 2, 0, 0, "")
}

// TestLastVersions: versions go up to the greatest number, and no further.
func TestLastVersions(t *testing.T) {
	l := mustLink(t, 3)
	for i := range l.Acceptors {
		lay(t, l, i, learn(api.MaxNumber-3, "a"))
	}
	checkRead(t, l, key, 0, api.MaxNumber-3, "a")
	checkSwap(t, l, key, 0, api.MaxNumber-4, "b", api.ErrStale)
	checkSwap(t, l, key, 0, api.MaxNumber-2, "b", api.ErrStale)
	checkSwap(t, l, key, 0, api.MaxNumber-3, "b", api.OK)
	checkSwap(t, l, key, 0, api.MaxNumber-2, "c", api.OK)
	checkRead(t, l, key, 0, api.MaxNumber-1, "c")
	checkSwap(t, l, key, 0, api.MaxNumber-1, "d", api.ErrArg)
	checkSwap(t, l, key, 0, api.MaxNumber-2, "d", api.ErrStale)
}

// TestValues: one without bytes is a value, too.
func TestValues(t *testing.T) {
	values := []string{"", "a", strings.Repeat("b", maxValue), "", string(make([]byte, maxValue-1)), "\x00"}
	for _, acceptors := range []int{1, 2, 3, api.MaxNodes} {
		l := mustLink(t, acceptors)
		for version, value := range values {
			checkSwap(t, l, key, 3, version, value, api.OK)
			checkRead(t, l, key, 4, version+1, value)
		}
	}
	l := mustLink(t, 1)
	if e := register.Swap(l, key, 0, 0, nil); e != api.OK {
		t.Errorf("Swap of nil: %d", e)
	}
	checkRead(t, l, key, 0, 1, "")
	checkSwap(t, l, key, 0, 0, "", api.ErrStale)
}

// P903

// TestReadAsksAll: a Query goes to all acceptors, in their order, and nothing else, where the version is learned, or there is none.
func TestReadAsksAll(t *testing.T) {
	for acceptors := 1; acceptors <= api.MaxNodes; acceptors++ {
		l := mustLink(t, acceptors)
		luck(l, late, acceptors, late, 1)
		checkNoRead(t, l, key, 0, api.ErrLost)
		checkLate(t, l, toAll(l, query())...)
		checkLeft(t, l, 1)
		calm(l)
		luck(l, comes, acceptors, late, 1)
		checkRead(t, l, key, 0, 0, "")
		checkLeft(t, l, 1)
		calm(l)
		lay(t, l, acceptors-1, learn(4, "a"))
		luck(l, comes, acceptors, late, 1)
		checkRead(t, l, key, 0, 4, "a")
		checkLeft(t, l, 1)
	}
}

// TestMajorities: fewer answers than a majority are too few, whoever does not answer.
func TestMajorities(t *testing.T) {
	for acceptors := 1; acceptors <= api.MaxNodes; acceptors++ {
		majority := acceptors/2 + 1
		for answers := 0; answers <= acceptors; answers++ {
			for first := range acceptors {
				l := mustLink(t, acceptors)
				checkSwap(t, l, key, 0, 0, "a", api.OK)
				for i := range acceptors - answers {
					l.Acceptors[(first+i)%acceptors].Stop()
				}
				if answers >= majority {
					checkRead(t, l, key, 1, 1, "a")
					checkSwap(t, l, key, 1, 1, "b", api.OK)
					checkSwap(t, l, key, 2, 1, "c", api.ErrStale)
					checkRead(t, l, key, 1, 2, "b")
				} else {
					checkNoRead(t, l, key, 1, api.ErrLost)
					checkSwap(t, l, key, 1, 1, "b", api.ErrLost)
					checkSwap(t, l, key, 1, 0, "b", api.ErrLost)
				}
			}
		}
	}
}

// TestReadOfSeveralVersions: the greatest one counts, whoever tells it.
func TestReadOfSeveralVersions(t *testing.T) {
	for _, versions := range [][]int{{3, 2, 1}, {1, 3, 2}, {1, 2, 3}, {2, 2, 3}, {3, 0, 0}, {0, 3, 3}, {3, 3, 3}} {
		l := mustLink(t, 3)
		for i, version := range versions {
			if version > 0 {
				lay(t, l, i, learn(version, fmt.Sprint("value of ", version)))
			}
		}
		luck(l, comes, 3, late, 1)
		checkRead(t, l, key, 0, 3, "value of 3")
		checkLeft(t, l, 1)
	}
}

// TestReadOfOneThatIsLearned: where one of those with the greatest version has learned it nothing is asked any more; a learned one of a smaller version does not count.
func TestReadOfOneThatIsLearned(t *testing.T) {
	for place := range 3 {
		l := mustLink(t, 3)
		for i := range l.Acceptors {
			if i == place {
				lay(t, l, i, prepare(2, 8), learn(2, "a"))
			} else {
				lay(t, l, i, learn(1, "old"), accept(2, 8, "a"))
			}
		}
		luck(l, comes, 3, late, 1)
		checkRead(t, l, key, 0, 2, "a")
		checkLeft(t, l, 1)
		checkLearned(t, l, place, 2, 8, 1, "a")
		calm(l)
		l.Acceptors[place].Stop()
		checkRead(t, l, key, 0, 2, "a")
		checkLearned(t, l, (place+1)%3, 2, 17, 17, "a")
	}
}

// TestReadThatFindsWhatNoMajorityHas: it is agreed on first, or nothing is told.
func TestReadThatFindsWhatNoMajorityHas(t *testing.T) {
	for place := range 3 {
		l := mustLink(t, 3)
		lay(t, l, place, accept(1, 5, "a"))
		checkRead(t, l, key, 8, 1, "a")
		for i := range l.Acceptors {
			checkLearned(t, l, i, 1, 9, 9, "a")
		}
	}
}

// TestReadThatFindsWhatHasGone: who has it answers no more: it may have been agreed on or not, and nothing is asked in vain.
func TestReadThatFindsWhatHasGone(t *testing.T) {
	l := mustLink(t, 3)
	lay(t, l, 0, accept(1, 5, "a"))
	luck(l, comes, 3, lost, 1, comes, 2, late, 1)
	checkNoRead(t, l, key, 8, api.ErrLost)
	checkLeft(t, l, 1)
	calm(l)
	checkRead(t, l, key, 7, 1, "a")
	for i := range l.Acceptors {
		checkLearned(t, l, i, 1, 24, 24, "a")
	}
}

// TestReadThatDoesNotHearAll: a version that a minority has may be passed over, and is told later.
func TestReadThatDoesNotHearAll(t *testing.T) {
	l := mustLink(t, 3)
	lay(t, l, 0, accept(1, 5, "a"))
	luck(l, lost, 1)
	checkRead(t, l, key, 0, 0, "")
	luck(l, unanswered, 1)
	checkRead(t, l, key, 0, 0, "")
	luck(l, late, 1)
	checkRead(t, l, key, 0, 0, "")
	luck(l, twice, 3)
	checkRead(t, l, key, 0, 1, "a")
}

// TestReadWithLostAnswers: of what is wanted by nobody all turns fail, where no majority accepts.
func TestReadWithLostAnswers(t *testing.T) {
	l := mustLink(t, 3)
	lay(t, l, 2, accept(1, 5, "a"))
	for range 4 {
		luck(l, comes, 3, lost, 1, unanswered, 2)
	}
	l.Net.Luck([]int{late})
	checkNoRead(t, l, key, 8, api.ErrLost)
	calm(l)
	checkRead(t, l, key, 8, 1, "a")
}

// P904

func TestSwap(t *testing.T) {
	l := mustLink(t, 3)
	for version := range 20 {
		for _, wrong := range []int{0, version - 1, version + 1, version + 2, api.MaxNumber - 2} {
			if wrong >= 0 && wrong != version {
				checkSwap(t, l, key, 2, wrong, "wrong", api.ErrStale)
			}
		}
		checkSwap(t, l, key, version%16, version, fmt.Sprint("value ", version), api.OK)
		checkRead(t, l, key, 2, version+1, fmt.Sprint("value ", version))
	}
	for i := range l.Acceptors {
		for version := range 20 {
			ballot := version%16 + 1
			if x, want := straight(t, l.Acceptors[i], prepare(version+1, 1)), learned(api.ErrStale, version+1, ballot, ballot, fmt.Sprint("value ", version)); !sameAnswer(x, want) {
				t.Errorf("the acceptor %d knows %s, not %s", i, text(x), text(want))
			}
		}
	}
}

// TestSwapAsksAll: a Query, a Prepare, an Accept and a Learn go to all acceptors.
func TestSwapAsksAll(t *testing.T) {
	steps := []acceptor.Ask{query(), prepare(1, 4), accept(1, 4, "a"), learn(1, "a")}
	for acceptors := 1; acceptors <= api.MaxNodes; acceptors++ {
		for i, step := range steps {
			l := mustLink(t, acceptors)
			for range i {
				luck(l, comes, acceptors)
			}
			luck(l, late, acceptors)
			want := api.ErrLost
			if step.Kind == acceptor.Learn {
				want = api.OK
			} else {
				luck(l, lost, 4*acceptors)
			}
			checkSwap(t, l, key, 3, 0, "a", want)
			checkLate(t, l, toAll(l, step)...)
			if want == api.OK {
				checkLeft(t, l, 0)
			}
		}
	}
}

// TestSwapBehindAnother: what somebody has half done is done first, and then it is too late.
func TestSwapBehindAnother(t *testing.T) {
	l := mustLink(t, 3)
	luck(l, comes, 6, unanswered, 1, lost, 11)
	checkSwap(t, l, key, 0, 0, "a", api.ErrLost)
	checkLeft(t, l, 0)
	checkSwap(t, l, key, 1, 0, "b", api.ErrStale)
	checkRead(t, l, key, 2, 1, "a")
	checkSwap(t, l, key, 1, 1, "b", api.OK)
}

// TestSwapThatFindsAnotherValue: its Read has not heard of it, but the turns do.
func TestSwapThatFindsAnotherValue(t *testing.T) {
	for _, c := range []struct {
		other, own string
		want       api.Errno
	}{
		{"a", "b", api.ErrStale},
		{"a", "", api.ErrStale},
		{"", "b", api.ErrStale},
		{"a", "a", api.OK},
		{"", "", api.OK},
		{"a", "ab", api.ErrStale},
		{strings.Repeat("a", maxValue), strings.Repeat("a", maxValue), api.OK},
		{strings.Repeat("a", maxValue), strings.Repeat("a", maxValue-1), api.ErrStale},
		{strings.Repeat("a", maxValue), strings.Repeat("a", maxValue-1) + "b", api.ErrStale},
	} {
		for _, behind := range []acceptor.Ask{accept(1, 5, c.other), learn(1, c.other)} {
			l := mustLink(t, 3)
			lay(t, l, 1, behind)
			luck(l, comes, 1, lost, 1, comes, 1)
			checkSwap(t, l, key, 9, 0, c.own, c.want)
			checkRead(t, l, key, 2, 1, c.other)
			for i := range l.Acceptors {
				if x := straight(t, l.Acceptors[i], query()); !x.Learned || string(x.Value) != c.other {
					t.Errorf("the acceptor %d knows %s", i, text(x))
				}
			}
		}
	}
}

// TestSwapWhoseReadFails: the version that was seen is not known to be agreed on: nothing is asked of the next one.
func TestSwapWhoseReadFails(t *testing.T) {
	l := mustLink(t, 3)
	lay(t, l, 0, accept(1, 5, "a"))
	luck(l, comes, 3, lost, 1, comes, 2, late, 1)
	checkSwap(t, l, key, 8, 1, "b", api.ErrLost)
	checkLeft(t, l, 1)
	calm(l)
	checkSwap(t, l, key, 8, 1, "b", api.OK)
	checkRead(t, l, key, 8, 2, "b")
	for i := range l.Acceptors {
		if x := straight(t, l.Acceptors[i], prepare(1, 1)); !x.Learned || string(x.Value) != "a" {
			t.Errorf("the acceptor %d knows %s", i, text(x))
		}
	}
}

// TestLateMessagesBehindASwap: what comes late changes nothing of what was agreed on.
func TestLateMessagesBehindASwap(t *testing.T) {
	l := mustLink(t, 3)
	luck(l, comes, 6, late, 12)
	checkSwap(t, l, key, 0, 0, "a", api.ErrLost)
	checkLate(t, l, slices.Concat(toAll(l, accept(1, 1, "a")), toAll(l, prepare(1, 17)), toAll(l, prepare(1, 33)), toAll(l, prepare(1, 49)))...)
	luck(l, comes, 8, late, 1, comes, 2, late, 1)
	checkSwap(t, l, key, 1, 0, "b", api.OK)
	for k := range l.Net.Late() {
		l.Net.Double(k)
	}
	for l.Net.Late() > 14 {
		checkComes(t, l, l.Net.Late()/2)
		checkRead(t, l, key, 2, 1, "b")
	}
	checkSwap(t, l, key, 2, 1, "c", api.OK)
	for l.Net.Late() > 0 {
		checkComes(t, l, l.Net.Late()/2)
		checkRead(t, l, key, 3, 2, "c")
	}
	for i := range l.Acceptors {
		if x := straight(t, l.Acceptors[i], prepare(1, 1)); !x.Learned || string(x.Value) != "b" {
			t.Errorf("the acceptor %d knows %s", i, text(x))
		}
	}
}

func TestFullAcceptors(t *testing.T) {
	l := mustLink(t, 3)
	for i := range l.Acceptors {
		l.Acceptors[i] = mustAcceptor(t, 4)
	}
	checkSwap(t, l, key, 0, 0, "a", api.OK) // It takes three blocks of each.
	checkSwap(t, l, key, 0, 1, "b", api.ErrLost)
	checkSwap(t, l, key, 1, 1, "b", api.ErrLost)
	checkRead(t, l, key, 0, 1, "a")
	l.Acceptors[1] = mustAcceptor(t, 100)
	checkRead(t, l, key, 0, 1, "a")
	checkSwap(t, l, key, 1, 1, "b", api.ErrLost)
	l.Acceptors[2] = mustAcceptor(t, 100)
	checkSwap(t, l, key, 1, 1, "b", api.OK)
	checkRead(t, l, key, 0, 2, "b")
}
