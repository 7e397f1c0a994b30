package group_test

import (
	"math"
	"slices"
	"testing"

	"gazette/api"
	"gazette/group"
)

// The chapter's example

func TestExample(t *testing.T) {
	g := made(t, 3, 10, join("a", 0))
	checkShares(t, g, 1, "a 0 1 2")
	mustTake(t, g, join("b", 1))
	checkShares(t, g, 2, "a 0 1, b 2")
	checkRefused(t, g, commit("a", 1, 0, 5), api.ErrGroup)
	checkOffsets(t, g, -1, -1, -1)
	mustTake(t, g, commit("a", 2, 0, 5))
	checkOffsets(t, g, 5, -1, -1)
	mustTake(t, g, expire(10))
	checkShares(t, g, 3, "b 0 1 2")
}

// P1501

func TestGroupsThatNewDidNotMake(t *testing.T) {
	for name, g := range map[string]*group.Group{"nil": nil, "zero": {}} {
		for _, x := range append(append(right(), wrong()...), group.Event{}) {
			if done, e := g.Decide(x); done || e != api.ErrArg {
				t.Errorf("%s: Decide(%s): %v, %d", name, brief(x), done, e)
			}
			if e := g.Apply(x); e != api.ErrArg {
				t.Errorf("%s: Apply(%s): %d", name, brief(x), e)
			}
		}
		if n := g.Generation(); n != 0 {
			t.Errorf("%s: Generation: %d", name, n)
		}
		if l := g.Members(); len(l) != 0 {
			t.Errorf("%s: Members: %q", name, l)
		}
		for _, member := range []string{"", "a"} {
			if l := g.Share(member); len(l) != 0 {
				t.Errorf("%s: Share(%q): %v", name, member, l)
			}
		}
		for _, part := range []int{-1, 0, 1, math.MaxInt} {
			if n, is := g.Offset(part); n != 0 || is {
				t.Errorf("%s: Offset(%d): %d, %v", name, part, n, is)
			}
		}
		if l := g.Pending(); len(l) != 0 {
			t.Errorf("%s: Pending: %v", name, l)
		}
	}
}

// P1503

func TestNew(t *testing.T) {
	parts := map[int]bool{math.MinInt: false, -1: false, 0: false, 1: true, 2: true, api.MaxParts: true, api.MaxParts + 1: false, math.MaxInt: false}
	sessions := map[int]bool{math.MinInt: false, -1: false, 0: false, 1: true, 2: true, 3600: true, 3601: false, math.MaxInt: false}
	for p, partsMay := range parts {
		for s, sessionMay := range sessions {
			g, e := group.New(p, s)
			if !partsMay || !sessionMay {
				if g != nil || e != api.ErrArg {
					t.Errorf("New(%d, %d): %v, %d", p, s, g, e)
				}
				continue
			}
			if g == nil || e != api.OK {
				t.Fatalf("New(%d, %d): %v, %d", p, s, g, e)
			}
			checkShares(t, g, 0, "")
			checkOffsets(t, g, -1, -1)
			checkPending(t, g)
		}
	}
}

func TestNewGroupsKnowNobody(t *testing.T) {
	g := mustNew(t, 3, 10)
	checkRefused(t, g, leave("a", 0), api.ErrGroup)
	checkRefused(t, g, beat("a", 0, 0), api.ErrGroup)
	checkRefused(t, g, commit("a", 0, 0, 0), api.ErrGroup)
	checkRefused(t, g, promise("a", 0, 0, 0, 0, 0), api.ErrGroup)
	checkDone(t, g, expire(0))
	checkDone(t, g, expire(topNumber))
	mustTake(t, g, no(0, 0))
	checkDone(t, g, no(0, 0))
}

func TestGroupsAreApart(t *testing.T) {
	g, h := mustNew(t, 3, 10), mustNew(t, 3, 10)
	was := stateOf(h)
	mustTake(t, g, join("a", 0), commit("a", 1, 0, 5), promise("a", 1, 1, 6, 7, 1))
	checkState(t, h, was)
}

func TestPartsAndSessionAreThoseOfNew(t *testing.T) {
	for _, parts := range []int{1, 2, 31, 32} {
		for _, session := range []int{1, 2, 3599, 3600} {
			g := made(t, parts, session, join("a", 5))
			if n := len(g.Share("a")); n != parts {
				t.Errorf("of %d: a has %d", parts, n)
			}
			checkDone(t, g, expire(5+session-1))
			mustTake(t, g, expire(5+session))
			checkShares(t, g, 2, "")
		}
	}
}

// P1504

func TestWhatMayNotBeIsRefusedFirst(t *testing.T) {
	g := made(t, api.MaxParts, 10, join("a", 0), join("b", 1), promise("a", 2, 0, 1, 6, 9))
	for _, x := range wrong() {
		checkRefused(t, g, x, api.ErrArg)
	}
	full := mustNew(t, 1, 10)
	for _, name := range names(hundred) {
		mustTake(t, full, join(name, 0))
	}
	for name, x := range map[string]group.Event{
		"Join of one more":         with(join("new", 0), "Gen", 1),
		"Leave of no member":       with(leave("new", 0), "Part", 1),
		"Beat of no member":        with(beat("new", hundred, 0), "Yes", true),
		"Commit of no member":      commit("new", hundred, api.MaxParts, 0),
		"Promise of no member":     promise("new", hundred, 0, -1, 0, 0),
		"Expire with a Member":     with(expire(0), "Member", "m0000"),
		"Mark, and an Epoch below": yes(0, -1),
	} {
		if done, e := full.Decide(x); done || e != api.ErrArg {
			t.Errorf("%s: %v, %d", name, done, e)
		}
	}
}

func TestWhatMayBeIsNotRefusedAsAnArgument(t *testing.T) {
	g := made(t, api.MaxParts, 10, join("a", 0), join("b", 1))
	for _, x := range right() {
		if _, e := g.Decide(x); e == api.ErrArg {
			t.Errorf("Decide(%s): ErrArg", brief(x))
		}
	}
}

func TestAHundredMembers(t *testing.T) {
	g := mustNew(t, api.MaxParts, 10)
	list := names(hundred + 1)
	for i, name := range list[:hundred] {
		mustTake(t, g, join(name, 5))
		if n := len(g.Members()); n != i+1 || g.Generation() != i+1 {
			t.Fatalf("behind %d: %d members, generation %d", i+1, n, g.Generation())
		}
	}
	checkRefused(t, g, join(list[hundred], 6), api.ErrFull)
	checkRefused(t, g, join("a", 6), api.ErrFull)
	mustTake(t, g, join(list[0], 6), join(list[hundred-1], 6))
	if n := len(g.Members()); n != hundred || g.Generation() != hundred {
		t.Errorf("%d members, generation %d", n, g.Generation())
	}
	mustTake(t, g, leave(list[3], 0), join("a", 6))
	checkRefused(t, g, join(list[3], 6), api.ErrFull)
	mustTake(t, g, expire(15)) // all but those two, and a, go
	if l := g.Members(); !slices.Equal(l, []string{"a", list[0], list[hundred-1]}) {
		t.Errorf("%q", l)
	}
	mustTake(t, g, join(list[hundred], 6))
}

func TestLeaveOfNoMember(t *testing.T) {
	g := made(t, 3, 10, join("a", 0), join("b", 0))
	checkRefused(t, g, leave("c", 0), api.ErrGroup)
	checkRefused(t, g, leave("A", 0), api.ErrGroup)
	checkRefused(t, g, leave("aa", 0), api.ErrGroup)
	mustTake(t, g, leave("a", 0))
	checkRefused(t, g, leave("a", 0), api.ErrGroup)
}

func TestOfWhoIsNoMemberOrInAnotherGeneration(t *testing.T) {
	g := made(t, 3, 10, join("a", 0), join("b", 0))
	for name, of := range map[string]func(member string, gen int) group.Event{
		"Beat":    func(member string, gen int) group.Event { return beat(member, gen, 0) },
		"Commit":  func(member string, gen int) group.Event { return commit(member, gen, 2, 5) },
		"Promise": func(member string, gen int) group.Event { return promise(member, gen, 2, 5, 1, 1) },
	} {
		for _, gen := range []int{0, 1, 3, topNumber} {
			checkRefused(t, g, of("a", gen), api.ErrGroup)
		}
		for _, gen := range []int{0, 1, 2, 3} {
			checkRefused(t, g, of("c", gen), api.ErrGroup)
		}
		for _, member := range []string{"a", "b"} {
			if done, e := g.Decide(of(member, 2)); done || e != api.OK {
				t.Errorf("%s of %s: %v, %d", name, member, done, e)
			}
		}
	}
	mustTake(t, g, leave("b", 0))
	checkRefused(t, g, beat("b", 3, 0), api.ErrGroup)
	checkRefused(t, g, commit("a", 2, 0, 0), api.ErrGroup)
	checkRefused(t, g, promise("b", 3, 0, 0, 0, 0), api.ErrGroup)
	mustTake(t, g, beat("a", 3, 0))
}

func TestPartitionsThatAreNotThere(t *testing.T) {
	for _, parts := range []int{1, 3, 31} {
		g := made(t, parts, 10, join("a", 0))
		for _, part := range []int{parts, api.MaxParts - 1} {
			checkRefused(t, g, commit("a", 1, part, 0), api.ErrArg)
			checkRefused(t, g, promise("a", 1, part, 0, 1, 1), api.ErrArg)
			// who it is counts first
			checkRefused(t, g, commit("a", 0, part, 0), api.ErrGroup)
			checkRefused(t, g, commit("b", 1, part, 0), api.ErrGroup)
			checkRefused(t, g, promise("a", 2, part, 0, 1, 1), api.ErrGroup)
		}
		mustTake(t, g, commit("a", 1, parts-1, 4), promise("a", 1, parts-1, 5, 1, 1))
		if n, is := g.Offset(parts - 1); n != 4 || !is {
			t.Errorf("Offset(%d): %d, %v", parts-1, n, is)
		}
	}
	g := made(t, api.MaxParts, 10, join("a", 0))
	mustTake(t, g, commit("a", 1, api.MaxParts-1, 4))
	checkRefused(t, g, commit("a", 1, api.MaxParts, 4), api.ErrArg)
}

func TestAnyMemberMayCommitAnyPartition(t *testing.T) {
	g := made(t, 3, 10, join("a", 0), join("b", 0))
	checkShares(t, g, 2, "a 0 1, b 2")
	mustTake(t, g, commit("b", 2, 0, 5), commit("a", 2, 2, 6), promise("b", 2, 1, 7, 1, 0), yes(1, 0))
	checkOffsets(t, g, 5, 7, 6)
}

func TestEpochsAtPromise(t *testing.T) {
	g := made(t, 3, 10, join("a", 0), promise("a", 1, 0, 1, 7, 3))
	for _, epoch := range []int{0, 1, 2} {
		checkRefused(t, g, promise("a", 1, 0, 1, 7, epoch), api.ErrFence)
		checkRefused(t, g, promise("a", 0, 0, 1, 7, epoch), api.ErrGroup)
		checkRefused(t, g, promise("b", 1, 0, 1, 7, epoch), api.ErrGroup)
		checkRefused(t, g, promise("a", 1, 3, 1, 7, epoch), api.ErrArg)
	}
	mustTake(t, g, promise("a", 1, 0, 2, 7, 3), promise("a", 1, 0, 3, 7, 4), promise("a", 1, 0, 4, 8, 0))
	checkRefused(t, g, promise("a", 1, 0, 5, 7, 3), api.ErrFence)
	mustTake(t, g, promise("a", 1, 0, 5, 7, topEpoch))
	checkRefused(t, g, promise("a", 1, 0, 5, 7, topEpoch-1), api.ErrFence)
	mustTake(t, g, promise("a", 1, 0, 6, 7, topEpoch))
	checkPending(t, g, group.Pend{7, 0, 1}, group.Pend{7, 0, 2}, group.Pend{7, 0, 3}, group.Pend{8, 0, 4}, group.Pend{7, 0, 5}, group.Pend{7, 0, 6})
}

func TestEpochsAtMark(t *testing.T) {
	for _, mark := range []func(int, int) group.Event{yes, no} {
		g := made(t, 3, 10, join("a", 0), promise("a", 1, 0, 1, 7, 3))
		for _, epoch := range []int{0, 1, 2} {
			checkRefused(t, g, mark(7, epoch), api.ErrFence)
		}
		mustTake(t, g, mark(7, 3)) // it has something pending
		checkPending(t, g)
		checkDone(t, g, mark(7, 3))
		checkRefused(t, g, mark(7, 2), api.ErrFence)
		mustTake(t, g, mark(7, 4)) // nothing pending, but a new epoch
		checkDone(t, g, mark(7, 4))
		checkRefused(t, g, mark(7, 3), api.ErrFence)
		checkRefused(t, g, promise("a", 1, 0, 1, 7, 3), api.ErrFence)
		mustTake(t, g, promise("a", 1, 0, 1, 7, 4), mark(7, topEpoch))
		checkDone(t, g, mark(7, topEpoch))
		checkRefused(t, g, mark(7, topEpoch-1), api.ErrFence)
		checkPending(t, g)
	}
}

func TestMarksOfWhoIsNotKnown(t *testing.T) {
	for _, mark := range []func(int, int) group.Event{yes, no} {
		for _, epoch := range []int{0, 1, topEpoch} {
			g := mustNew(t, 3, 10)
			mustTake(t, g, mark(topNumber, epoch)) // not done: the epoch is not known
			checkDone(t, g, mark(topNumber, epoch))
			checkDone(t, g, yes(topNumber, epoch))
			checkDone(t, g, no(topNumber, epoch))
			if epoch > 0 {
				checkRefused(t, g, mark(topNumber, epoch-1), api.ErrFence)
			}
			mustTake(t, g, mark(0, 0))
			checkShares(t, g, 0, "")
			checkOffsets(t, g, -1, -1, -1)
		}
	}
}

func TestWhatIsNeverDone(t *testing.T) {
	g := made(t, 3, 10, join("a", 5), commit("a", 1, 0, 4))
	mustTake(t, g, join("a", 5), join("a", 5), beat("a", 1, 5), beat("a", 1, 5), beat("a", 1, 0), commit("a", 1, 0, 4))
	mustTake(t, g, promise("a", 1, 0, 4, 7, 0), promise("a", 1, 0, 4, 7, 0))
	checkPending(t, g, group.Pend{7, 0, 4}, group.Pend{7, 0, 4})
}

func TestDecideChangesNothing(t *testing.T) {
	g := made(t, 3, 10, join("a", 0), join("b", 3), promise("a", 2, 0, 1, 7, 1))
	was := stateOf(g)
	for _, x := range []group.Event{join("c", 0), join("a", 9), leave("a", 0), beat("a", 2, 9), commit("a", 2, 0, 5), expire(50), promise("a", 2, 0, 1, 7, 2), yes(7, 1), yes(7, 2), no(7, 3), yes(9, 3)} {
		if done, e := g.Decide(x); done || e != api.OK {
			t.Errorf("Decide(%s): %v, %d", brief(x), done, e)
		}
		checkState(t, g, was)
	}
}

// P1505: when a member was heard of

// checkHeard looks that the only member was heard of at that time; behind it there is none.
func checkHeard(t *testing.T, g *group.Group, at int) {
	t.Helper()
	const session = 10
	if at+session > 0 {
		checkDone(t, g, expire(at+session-1))
	}
	if done, e := g.Decide(expire(at + session)); done || e != api.OK {
		t.Errorf("Decide(expire(%d)): %v, %d", at+session, done, e)
	}
	mustTake(t, g, expire(at+session+1))
	if l := g.Members(); len(l) != 0 {
		t.Errorf("%q", l)
	}
}

func TestJoinAgain(t *testing.T) {
	for _, c := range [][2]int{{0, 0}, {5, 7}, {7, 5}, {7, 0}, {0, topNumber - 11}} {
		g := made(t, 3, 10, join("a", c[0]), commit("a", 1, 0, 5), join("a", c[1]))
		checkShares(t, g, 1, "a 0 1 2")
		checkOffsets(t, g, 5)
		checkHeard(t, g, c[1]) // even if that is earlier
	}
}

func TestBeats(t *testing.T) {
	for _, c := range []struct {
		joined, beat, want int
	}{
		{0, 0, 0}, {5, 6, 6}, {5, 5, 5}, {5, 4, 5}, {5, 0, 5}, {0, topNumber - 11, topNumber - 11},
	} {
		g := made(t, 3, 10, join("a", c.joined), beat("a", 1, c.beat))
		checkShares(t, g, 1, "a 0 1 2")
		checkHeard(t, g, c.want)
	}
	g := made(t, 3, 10, join("a", 5), beat("a", 1, 9), beat("a", 1, 7))
	checkHeard(t, g, 9)
}

func TestABeatIsOfOneMember(t *testing.T) {
	g := made(t, 4, 10, join("a", 0), join("b", 0), beat("b", 2, 5), expire(10))
	checkShares(t, g, 3, "b 0 1 2 3")
	checkHeard(t, g, 5)
}

// TestWhoLeftIsForgotten: when it joins again it has nothing of what it had.
func TestWhoLeftIsForgotten(t *testing.T) {
	g := made(t, 4, 10, join("a", 50), join("b", 0), leave("a", 51))
	checkShares(t, g, 3, "b 0 1 2 3")
	mustTake(t, g, join("a", 2))
	checkShares(t, g, 4, "a 2 3, b 0 1")
	mustTake(t, g, leave("b", 0))
	checkHeard(t, g, 2)
}

func TestOthersCallsAreNotHeard(t *testing.T) {
	g := made(t, 3, 10, join("a", 1), commit("a", 1, 0, 1000), promise("a", 1, 0, 1000, 1000, 1000), yes(1000, 1000))
	checkHeard(t, g, 1)
	g = made(t, 3, 10, join("a", 1), join("b", 50), leave("b", 60))
	checkHeard(t, g, 1)
}

// P1505: Expire

func TestExpire(t *testing.T) {
	for _, c := range []struct {
		now  int
		want []string
	}{
		{0, []string{"a", "b", "c", "d"}},
		{14, []string{"a", "b", "c", "d"}},
		{15, []string{"a", "d"}},
		{16, []string{"a", "d"}},
		{17, []string{"a"}},
		{18, nil},
		{topNumber, nil},
	} {
		g := made(t, 6, 10, join("a", 8), join("b", 5), join("c", 5), join("d", 7))
		want := 4
		if len(c.want) < 4 {
			mustTake(t, g, expire(c.now))
			want = 5 // one more, however many go
		}
		checkDone(t, g, expire(c.now))
		if l := g.Members(); !slices.Equal(l, c.want) || g.Generation() != want {
			t.Errorf("Expire(%d): %q, generation %d, not %q, %d", c.now, l, g.Generation(), c.want, want)
		}
	}
}

func TestExpireOfSeveralAtOnce(t *testing.T) {
	g := made(t, 6, 10, join("a", 8), join("b", 5), join("c", 5), join("d", 7))
	checkShares(t, g, 4, "a 0 1, b 3 4, c 2, d 5")
	mustTake(t, g, expire(15))
	checkShares(t, g, 5, "a 0 1 2, d 3 4 5")
	checkRefused(t, g, beat("b", 5, 16), api.ErrGroup)
	checkRefused(t, g, beat("a", 4, 16), api.ErrGroup)
	mustTake(t, g, beat("a", 5, 16), expire(25))
	checkShares(t, g, 6, "a 0 1 2 3 4 5")
	mustTake(t, g, expire(26))
	checkShares(t, g, 7, "")
	checkDone(t, g, expire(topNumber))
	mustTake(t, g, join("b", 0))
	checkShares(t, g, 8, "b 0 1 2 3 4 5")
}

func TestTheLastTimes(t *testing.T) {
	g := made(t, 2, 3600, join("a", topNumber-3600), join("b", topNumber-3599), join("c", topNumber))
	checkDone(t, g, expire(topNumber-1))
	mustTake(t, g, expire(topNumber))
	checkShares(t, g, 4, "b 1, c 0")
}

// P1505, P1507: shares

func TestOneAfterTheOther(t *testing.T) {
	g := mustNew(t, 7, 10)
	for i, c := range []struct {
		x    group.Event
		want string
	}{
		{join("a", 0), "a 0 1 2 3 4 5 6"},
		{join("b", 0), "a 0 1 2 3, b 4 5 6"},
		{join("c", 0), "a 0 1 2, b 4 5, c 3 6"},
		{join("d", 9), "a 0 1, b 4 5, c 3 6, d 2"},
		{leave("a", 0), "b 1 4 5, c 3 6, d 0 2"},
		{leave("c", 0), "b 1 4 5 6, d 0 2 3"},
		{join("a", 0), "a 3 6, b 1 4 5, d 0 2"},
		{expire(10), "d 0 1 2 3 4 5 6"},
		{leave("d", 0), ""},
		{join("c", 0), "c 0 1 2 3 4 5 6"},
		{join("b", 0), "b 4 5 6, c 0 1 2 3"},
	} {
		mustTake(t, g, c.x)
		checkShares(t, g, i+1, c.want)
	}
}

func TestMoreMembersThanPartitions(t *testing.T) {
	g := made(t, 2, 10, join("c", 0), join("b", 0), join("a", 0))
	checkShares(t, g, 3, "a, b 1, c 0")
	if l := g.Share("a"); len(l) != 0 {
		t.Errorf("Share of a: %v", l)
	}
	mustTake(t, g, commit("a", 3, 1, 5), beat("a", 3, 7), leave("c", 0))
	checkShares(t, g, 4, "a 0, b 1")
}

// P1505, P1509: offsets

func TestCommit(t *testing.T) {
	g := made(t, 3, 10, join("a", 0), join("b", 0))
	mustTake(t, g, commit("a", 2, 0, 5), commit("b", 2, 2, topNumber))
	checkOffsets(t, g, 5, -1, topNumber)
	mustTake(t, g, commit("b", 2, 0, 3), commit("a", 2, 1, 0)) // it may fall
	checkOffsets(t, g, 3, 0, topNumber)
	checkShares(t, g, 2, "a 0 1, b 2")
	mustTake(t, g, leave("a", 0), leave("b", 0))
	checkOffsets(t, g, 3, 0, topNumber) // they outlast their members
}

func TestPromise(t *testing.T) {
	g := made(t, 3, 10, join("a", 0), commit("a", 1, 0, 1))
	mustTake(t, g, promise("a", 1, 0, 5, 9, 2), promise("a", 1, 2, topNumber, topNumber, topEpoch), promise("a", 1, 0, 0, 9, 2))
	checkPending(t, g, group.Pend{9, 0, 5}, group.Pend{topNumber, 2, topNumber}, group.Pend{9, 0, 0})
	checkOffsets(t, g, 1, -1, -1)
	mustTake(t, g, leave("a", 0), join("b", 0))
	checkPending(t, g, group.Pend{9, 0, 5}, group.Pend{topNumber, 2, topNumber}, group.Pend{9, 0, 0})
	mustTake(t, g, yes(9, 2))
	checkPending(t, g, group.Pend{topNumber, 2, topNumber})
	checkOffsets(t, g, 0, -1, -1)
}

func TestMarkWithYes(t *testing.T) {
	g := made(t, 3, 10, join("a", 0), commit("a", 1, 1, 8))
	mustTake(t, g, promise("a", 1, 0, 9, 1, 0), promise("a", 1, 0, 5, 2, 0), promise("a", 1, 1, 6, 1, 0), promise("a", 1, 0, 7, 1, 0), promise("a", 1, 2, 4, 2, 0))
	mustTake(t, g, yes(1, 0))
	checkOffsets(t, g, 7, 6, -1) // of several of one partition the last one, though it is not the greatest
	checkPending(t, g, group.Pend{2, 0, 5}, group.Pend{2, 2, 4})
	mustTake(t, g, yes(2, 0))
	checkOffsets(t, g, 5, 6, 4)
	checkPending(t, g)
}

func TestMarkWithoutYes(t *testing.T) {
	g := made(t, 3, 10, join("a", 0), commit("a", 1, 1, 8))
	mustTake(t, g, promise("a", 1, 0, 9, 1, 0), promise("a", 1, 0, 5, 2, 0), promise("a", 1, 1, 6, 1, 0))
	mustTake(t, g, no(1, 0))
	checkOffsets(t, g, -1, 8, -1)
	checkPending(t, g, group.Pend{2, 0, 5})
	checkDone(t, g, yes(1, 0)) // too late
	checkOffsets(t, g, -1, 8, -1)
	mustTake(t, g, yes(1, 1))
	checkOffsets(t, g, -1, 8, -1)
	mustTake(t, g, promise("a", 1, 2, 3, 1, 1), yes(1, 1))
	checkOffsets(t, g, -1, 8, 3)
}

func TestMarkOfAnotherProducer(t *testing.T) {
	g := made(t, 3, 10, join("a", 0), promise("a", 1, 0, 9, 1, 0))
	mustTake(t, g, yes(2, 0), yes(0, 0), yes(topNumber, 5), no(3, 0))
	checkPending(t, g, group.Pend{1, 0, 9})
	checkOffsets(t, g, -1, -1, -1)
	checkDone(t, g, yes(2, 0))
	mustTake(t, g, yes(1, 0))
	checkOffsets(t, g, 9)
}

// TestMarkOfAGreaterEpoch decides what is pending of the elder one, too: it is the same producer's.
func TestMarkOfAGreaterEpoch(t *testing.T) {
	g := made(t, 3, 10, join("a", 0), promise("a", 1, 0, 9, 1, 0), promise("a", 1, 1, 8, 1, 3))
	checkRefused(t, g, yes(1, 0), api.ErrFence)
	mustTake(t, g, yes(1, 5))
	checkOffsets(t, g, 9, 8, -1)
	checkPending(t, g)
	checkRefused(t, g, promise("a", 1, 0, 9, 1, 4), api.ErrFence)
}

func TestACommitBetweenAPromiseAndItsMark(t *testing.T) {
	g := made(t, 3, 10, join("a", 0), promise("a", 1, 0, 9, 1, 0), commit("a", 1, 0, 4), commit("a", 1, 1, 3))
	checkOffsets(t, g, 4, 3)
	h := made(t, 3, 10, join("a", 0), promise("a", 1, 0, 9, 1, 0), commit("a", 1, 0, 4))
	mustTake(t, g, yes(1, 0))
	checkOffsets(t, g, 9, 3) // the Mark came last
	mustTake(t, h, no(1, 0))
	checkOffsets(t, h, 4, -1)
	mustTake(t, g, commit("a", 1, 0, 2))
	checkOffsets(t, g, 2, 3)
}

// P1506

func TestMembersRise(t *testing.T) {
	g := mustNew(t, 3, 10)
	for _, name := range []string{"b", "aa", "a", "B", "\xff", "\x00", "a\x00", "é", "z"} {
		mustTake(t, g, join(name, 0))
	}
	want := []string{"\x00", "B", "a", "a\x00", "aa", "b", "z", "é", "\xff"}
	if l := g.Members(); !slices.Equal(l, want) {
		t.Errorf("Members: %q, not %q", l, want)
	}
}

func TestLooksAtWhatIsNotThere(t *testing.T) {
	g := made(t, 3, 10, join("a", 0), commit("a", 1, 0, 0), promise("a", 1, 1, 5, 1, 0))
	for _, part := range []int{math.MinInt, -1, 1, 2, 3, 4, api.MaxParts, 1 << 32, math.MaxInt} {
		if n, is := g.Offset(part); n != 0 || is {
			t.Errorf("Offset(%d): %d, %v", part, n, is)
		}
	}
	if n, is := g.Offset(0); n != 0 || !is {
		t.Errorf("Offset(0): %d, %v", n, is)
	}
	for _, name := range []string{"", "b", "A", "aa", "\x00", string(make([]byte, 1<<16))} {
		if l := g.Share(name); len(l) != 0 {
			t.Errorf("Share of another one: %v", l)
		}
	}
}
