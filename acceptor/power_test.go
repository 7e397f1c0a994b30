package acceptor_test

import (
	"math"
	"slices"
	"testing"

	"gazette/acceptor"
	"gazette/api"
)

const someBlocks = 40

// beginning is what prepared acceptors were asked.
func beginning() []acceptor.Ask {
	return []acceptor.Ask{
		prepare(0, 1, 5),
		accept(0, 2, 5, "a"),
		accept(0, 3, 5, string(filled(3, 300))), prepare(0, 3, 6),
		accept(0, 4, 5, "c"), learn(0, 4, "d"),
		learn(1, 1, "e"),
	}
}

// prepared has versions of every kind, out of which each Ask of changes makes something else.
func prepared(t *testing.T) (*acceptor.Acceptor, *plain) {
	t.Helper()
	a, p := mustNew(t, someBlocks), newPlain(someBlocks)
	for _, q := range beginning() {
		checkAsk(t, a, q, p.ask(q))
	}
	return a, p
}

func changes() []acceptor.Ask {
	return []acceptor.Ask{
		prepare(0, 1, 6),
		prepare(0, 3, 7),
		prepare(0, 4, 6),
		prepare(0, 5, 1),
		prepare(1, 1, 1),
		accept(0, 1, 5, "f"),
		accept(0, 1, 7, string(filled(4, 600))),
		accept(0, 2, 5, "b"),
		accept(0, 3, 6, ""),
		accept(0, 5, 1, "g"),
		accept(1, 2, 1, string(filled(5, 300))),
		learn(0, 1, "h"),
		learn(0, 2, "a"),
		learn(0, 3, string(filled(6, 600))),
		learn(0, 5, ""),
		learn(2, 1, "i"),
	}
}

// operations tells how many a change of p has: each block is written, and a Sync.
func operations(p *plain, q acceptor.Ask) int {
	was := p.free
	after := p.copied()
	after.ask(q)
	return was - after.free + 1
}

// everyChoice tells all lists of n choices: nothing of a block stays, its version does, or it is unreadable.
func everyChoice(n int) [][]int {
	lists := [][]int{nil}
	for range n {
		var longer [][]int
		for _, l := range lists {
			for _, c := range []int{0, 1, 9} {
				longer = append(longer, append(slices.Clone(l), c))
			}
		}
		lists = longer
	}
	return lists
}

// checkKnown asks of every key and version that some Ask here has named. A ballot that low is refused, and all is told, or it is a change in both.
func checkKnown(t *testing.T, a *acceptor.Acceptor, p *plain) {
	t.Helper()
	p = p.copied()
	for key := range 3 {
		checkAsk(t, a, query(key), p.ask(query(key)))
	}
	for key := range 3 {
		for version := 1; version <= 5; version++ {
			q := prepare(key, version, 1)
			checkAsk(t, a, q, p.ask(q))
		}
	}
}

// P803, P804: the power goes

// TestPowerGoes breaks a change off at each of its operations, and starts again with whatever a crash can leave.
func TestPowerGoes(t *testing.T) {
	for _, q := range changes() {
		_, p := prepared(t)
		count := operations(p, q)
		if count < 2 {
			t.Errorf("%v is no change", shortAsk(q))
		}
		for fuse := range count {
			for _, choices := range everyChoice(fuse) {
				a, p := prepared(t)
				a.Cut(fuse)
				checkNothing(t, a, askBytes(q))
				checkUp(t, a, false)
				checkNothing(t, a, askBytes(q))
				checkStart(t, a, choices)
				if fuse == count-1 && !slices.Contains(choices, 0) && !slices.Contains(choices, 9) {
					p.ask(q)
				}
				again := p.copied()
				checkKnown(t, a, p)
				// The rest is asked of one that was not asked for what it knows: that may have been a change.
				b, _ := prepared(t)
				b.Cut(fuse)
				checkNothing(t, b, askBytes(q))
				checkStart(t, b, choices)
				checkAsk(t, b, q, again.ask(q))
				checkKnown(t, b, again)
			}
		}
	}
}

func TestFuseThatIsLongEnough(t *testing.T) {
	for _, q := range changes() {
		a, p := prepared(t)
		a.Cut(operations(p, q))
		checkAsk(t, a, q, p.ask(q))
		checkUp(t, a, true)
		checkNothing(t, a, askBytes(learn(2, 5, "z")))
		checkUp(t, a, false)
	}
}

// TestGreatestValueWithoutPower: of its many blocks one that is missing is enough for nothing to be there.
func TestGreatestValueWithoutPower(t *testing.T) {
	value := string(filled(9, maxValue))
	const blocks = 17
	for missing := range blocks {
		for _, c := range []int{0, 9} {
			a, p := prepared(t)
			a.Cut(blocks)
			checkNothing(t, a, askBytes(accept(0, 5, 1, value)))
			choices := slices.Repeat([]int{1}, blocks)
			choices[missing] = c
			checkStart(t, a, choices)
			checkKnown(t, a, p)
		}
	}
	a, p := prepared(t)
	a.Cut(blocks)
	checkNothing(t, a, askBytes(accept(0, 5, 1, value)))
	checkStart(t, a, slices.Repeat([]int{1}, blocks))
	p.ask(accept(0, 5, 1, value))
	checkKnown(t, a, p)
}

// TestNothingIsAnsweredWithoutPower: also what asks nothing of the disk.
func TestNothingIsAnsweredWithoutPower(t *testing.T) {
	a, p := prepared(t)
	a.Cut(0)
	checkNothing(t, a, askBytes(learn(2, 1, "z")))
	checkSilent(t, a)
	checkStart(t, a, nil)
	checkKnown(t, a, p)
}

// TestRefusedWithoutAnOperation: what has no room asks nothing of the disk, so the fuse does not matter.
func TestRefusedWithoutAnOperation(t *testing.T) {
	a := mustNew(t, 1)
	checkAsk(t, a, prepare(0, 1, 3), told(api.OK, 1, 3, 0, ""))
	a.Cut(0)
	checkAsk(t, a, prepare(0, 1, 4), told(api.ErrFull, 1, 3, 0, ""))
	checkUp(t, a, true)
}

// P804: Stop, Start, Cut

func TestStop(t *testing.T) {
	a, p := prepared(t)
	for range 2 {
		a.Stop()
		checkSilent(t, a)
	}
	checkStart(t, a, nil)
	checkKnown(t, a, p)
	for _, q := range changes() {
		a, p := prepared(t)
		checkAsk(t, a, q, p.ask(q))
		a.Stop()
		checkStart(t, a, []int{9, 9, 9, 9})
		checkKnown(t, a, p)
	}
}

// TestStartOfAnAcceptorThatIsUp: the fuse is no other one behind it, nor is what is known.
func TestStartOfAnAcceptorThatIsUp(t *testing.T) {
	a, p := prepared(t)
	a.Cut(1)
	checkStart(t, a, []int{9})
	checkNothing(t, a, askBytes(learn(2, 1, "z")))
	checkUp(t, a, false)
	checkStart(t, a, []int{9})
	checkKnown(t, a, p)
}

func TestStartGivesThePowerBack(t *testing.T) {
	for _, choices := range [][]int{nil, {}, {0}, {-1}, {1}, {2}, {math.MaxInt}, {math.MinInt, 1, 1}, make([]int, 10000)} {
		a, _ := prepared(t)
		for fuse := range 3 {
			a.Cut(fuse % 2)
			checkNothing(t, a, askBytes(learn(2+fuse, 1, "z")))
			checkStart(t, a, choices)
			checkAsk(t, a, learn(9, 1+fuse, "y"), learned(api.OK, 1+fuse, 0, 1, "y"))
		}
	}
}

func TestCut(t *testing.T) {
	for _, k := range []int{-1, math.MinInt, 2, math.MaxInt} {
		a, _ := prepared(t)
		a.Cut(0)
		a.Cut(k)
		checkAsk(t, a, learn(2, 1, "z"), learned(api.OK, 1, 0, 1, "z"))
	}
	for k := range 2 {
		a, _ := prepared(t)
		a.Cut(-1)
		a.Cut(k)
		checkNothing(t, a, askBytes(learn(2, 1, "z")))
		checkUp(t, a, false)
	}
}

// TestCutOfAnAcceptorThatIsNotUp: its disk's Crash takes the fuse away.
func TestCutOfAnAcceptorThatIsNotUp(t *testing.T) {
	a, _ := prepared(t)
	a.Cut(0)
	a.Stop()
	a.Cut(1)
	checkUp(t, a, false)
	checkStart(t, a, nil)
	checkAsk(t, a, learn(2, 1, "z"), learned(api.OK, 1, 0, 1, "z"))
	a.Cut(0)
	checkNothing(t, a, askBytes(learn(2, 2, "z")))
	a.Cut(0)
	checkStart(t, a, nil)
	checkAsk(t, a, learn(2, 2, "z"), learned(api.OK, 2, 0, 1, "z"))
}
