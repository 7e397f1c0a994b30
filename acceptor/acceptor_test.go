package acceptor_test

import (
	"math"
	"math/rand/v2"
	"slices"
	"testing"

	"gazette/acceptor"
	"gazette/api"
)

func mustNew(t *testing.T, blocks int) *acceptor.Acceptor {
	t.Helper()
	a, e := acceptor.New(blocks)
	if a == nil || e != api.OK {
		t.Fatalf("New(%d): %v, %d", blocks, a, e)
	}
	checkUp(t, a, true)
	return a
}

func prepare(key, version, ballot int) acceptor.Ask {
	return acceptor.Ask{Kind: acceptor.Prepare, Key: key, Version: version, Ballot: ballot}
}

func accept(key, version, ballot int, value string) acceptor.Ask {
	return acceptor.Ask{Kind: acceptor.Accept, Key: key, Version: version, Ballot: ballot, Value: []byte(value)}
}

func learn(key, version int, value string) acceptor.Ask {
	return acceptor.Ask{Kind: acceptor.Learn, Key: key, Version: version, Value: []byte(value)}
}

func query(key int) acceptor.Ask { return acceptor.Ask{Kind: acceptor.Query, Key: key} }

// told is an Answer of a version where nothing is learned, learned one where something is.
func told(e api.Errno, version, promised, ballot int, value string) acceptor.Answer {
	return acceptor.Answer{E: e, Version: version, Promised: promised, Ballot: ballot, Value: []byte(value)}
}

func learned(e api.Errno, version, promised, ballot int, value string) acceptor.Answer {
	x := told(e, version, promised, ballot, value)
	x.Learned = true
	return x
}

// ask answers a's Answer to q, which must come.
func ask(t *testing.T, a *acceptor.Acceptor, q acceptor.Ask) acceptor.Answer {
	t.Helper()
	x, e := acceptor.GetAnswer(a.Ask(askBytes(q)))
	if e != api.OK {
		t.Fatalf("Ask(%v): no answer", shortAsk(q))
	}
	return x
}

func checkAsk(t *testing.T, a *acceptor.Acceptor, q acceptor.Ask, want acceptor.Answer) {
	t.Helper()
	if x := ask(t, a, q); !sameAnswer(x, want) {
		t.Errorf("Ask(%v): %v, %d bytes, not %v, %d bytes", shortAsk(q), shortAnswer(x), len(x.Value), shortAnswer(want), len(want.Value))
	}
}

func checkNothing(t *testing.T, a *acceptor.Acceptor, b []byte) {
	t.Helper()
	if got := a.Ask(b); len(got) != 0 {
		t.Errorf("Ask(%x): %x, not nothing", head(b), head(got))
	}
}

func checkUp(t *testing.T, a *acceptor.Acceptor, want bool) {
	t.Helper()
	if a.Up() != want {
		t.Errorf("Up: %v, not %v", a.Up(), want)
	}
}

func checkStart(t *testing.T, a *acceptor.Acceptor, choices []int) {
	t.Helper()
	if e := a.Start(choices); e != api.OK {
		t.Errorf("Start(%v): %d", choices, e)
	}
	checkUp(t, a, true)
}

// everyKind has an Ask of each kind.
func everyKind(key int) []acceptor.Ask {
	return []acceptor.Ask{
		prepare(key, 1, 2),
		accept(key, 1, 3, "e"),
		learn(key, 2, "f"),
		query(key),
	}
}

// rubbish has bytes that are no Ask.
func rubbish() [][]byte {
	may := askBytes(accept(0, 1, 1, "a"))
	return [][]byte{
		nil,
		{},
		[]byte("x"),
		make([]byte, 1<<17),
		may[:len(may)-1],
		append(slices.Clone(may), 0),
		frame(answerFrame, may[5:len(may)-4]),
		frame(1, may[5:len(may)-4]),
		frame(askFrame, nil),
		askBytes(acceptor.Ask{Version: 1, Ballot: 1}),
		askBytes(acceptor.Ask{Kind: 5, Version: 1, Ballot: 1}),
		askBytes(acceptor.Ask{Kind: 5}),
		askBytes(acceptor.Ask{Kind: 255}),
		askBytes(prepare(0, 0, 1)),
		askBytes(prepare(0, 1, 0)),
		askBytes(accept(0, 0, 1, "a")),
		askBytes(accept(0, 1, 0, "a")),
		askBytes(accept(0, 1, 1, string(filled(1, maxValue+1)))),
		askBytes(learn(0, 0, "a")),
		askBytes(acceptor.Ask{Kind: acceptor.Learn, Version: 1, Ballot: 1}),
		askBytes(learn(0, 1, string(filled(1, maxValue+1)))),
		askBytes(acceptor.Ask{Kind: acceptor.Prepare, Version: 1, Ballot: 1, Value: []byte("a")}),
		askBytes(acceptor.Ask{Kind: acceptor.Query, Version: 1}),
		askBytes(acceptor.Ask{Kind: acceptor.Query, Ballot: 1}),
		askBytes(acceptor.Ask{Kind: acceptor.Query, Value: []byte("a")}),
	}
}

func checkSilent(t *testing.T, a *acceptor.Acceptor) {
	t.Helper()
	for _, q := range everyKind(1) {
		checkNothing(t, a, askBytes(q))
	}
	for _, b := range rubbish() {
		checkNothing(t, a, b)
	}
	checkUp(t, a, false)
}

// P801

func TestAcceptorThatNewDidNotMake(t *testing.T) {
	for _, a := range []*acceptor.Acceptor{nil, {}, new(acceptor.Acceptor)} {
		for range 2 {
			a.Cut(0)
			a.Cut(-1)
			a.Stop()
			for _, choices := range [][]int{nil, {}, {1}} {
				if e := a.Start(choices); e != api.ErrArg {
					t.Errorf("Start(%v): %d, not ErrArg", choices, e)
				}
			}
			checkSilent(t, a)
		}
	}
}

func TestNew(t *testing.T) {
	for _, blocks := range []int{math.MinInt, -1, 0, api.MaxBlocks + 1, math.MaxInt} {
		if a, e := acceptor.New(blocks); a != nil || e != api.ErrArg {
			t.Errorf("New(%d): %v, %d, not ErrArg", blocks, a, e)
		}
	}
	for _, blocks := range []int{1, 2, api.MaxBlocks} {
		a := mustNew(t, blocks)
		checkAsk(t, a, query(0), acceptor.Answer{})
		checkAsk(t, a, prepare(0, 1, 1), told(api.OK, 1, 1, 0, ""))
	}
}

func TestAcceptorsHaveDisksOfTheirOwn(t *testing.T) {
	a, b := mustNew(t, 1), mustNew(t, 1)
	checkAsk(t, a, learn(0, 1, "a"), learned(api.OK, 1, 0, 1, "a"))
	checkAsk(t, b, query(0), acceptor.Answer{})
	a.Stop()
	checkUp(t, b, true)
	checkAsk(t, b, learn(0, 1, "b"), learned(api.OK, 1, 0, 1, "b"))
}

// P803

// step is an Ask and its Answer.
type step struct {
	q    acceptor.Ask
	want acceptor.Answer
}

func checkSteps(t *testing.T, a *acceptor.Acceptor, steps []step) {
	t.Helper()
	for _, s := range steps {
		checkAsk(t, a, s.q, s.want)
	}
}

func TestExamples(t *testing.T) {
	checkSteps(t, mustNew(t, 8), []step{
		{prepare(0, 1, 5), told(api.OK, 1, 5, 0, "")},
		{accept(0, 1, 4, "a"), told(api.ErrStale, 1, 5, 0, "")},
		{accept(0, 1, 5, "a"), told(api.OK, 1, 5, 5, "a")},
		{query(0), told(api.OK, 1, 5, 5, "a")},
	})
}

func TestPrepare(t *testing.T) {
	checkSteps(t, mustNew(t, 20), []step{
		{prepare(0, 1, 1), told(api.OK, 1, 1, 0, "")},
		{prepare(0, 1, 1), told(api.ErrStale, 1, 1, 0, "")},
		{prepare(0, 1, 5), told(api.OK, 1, 5, 0, "")},
		{prepare(0, 1, 4), told(api.ErrStale, 1, 5, 0, "")},
		{prepare(0, 1, 5), told(api.ErrStale, 1, 5, 0, "")},
		{prepare(0, 1, 6), told(api.OK, 1, 6, 0, "")},
		{prepare(0, 2, 2), told(api.OK, 2, 2, 0, "")},
		{prepare(1, 1, 3), told(api.OK, 1, 3, 0, "")},
		{accept(0, 1, 6, "a"), told(api.OK, 1, 6, 6, "a")},
		{prepare(0, 1, 6), told(api.ErrStale, 1, 6, 6, "a")},
		{prepare(0, 1, 7), told(api.OK, 1, 7, 6, "a")},
		{learn(0, 1, "b"), learned(api.OK, 1, 7, 6, "b")},
		{prepare(0, 1, 7), learned(api.ErrStale, 1, 7, 6, "b")},
		{prepare(0, 1, lastNumber), learned(api.OK, 1, lastNumber, 6, "b")},
		{prepare(0, 1, lastNumber), learned(api.ErrStale, 1, lastNumber, 6, "b")},
		{prepare(lastNumber, lastNumber, 1), told(api.OK, lastNumber, 1, 0, "")},
	})
}

func TestAccept(t *testing.T) {
	checkSteps(t, mustNew(t, 20), []step{
		{accept(0, 1, 3, "a"), told(api.OK, 1, 3, 3, "a")},
		{accept(0, 1, 2, "a"), told(api.ErrStale, 1, 3, 3, "a")},
		{accept(0, 1, 2, "b"), told(api.ErrStale, 1, 3, 3, "a")},
		{accept(0, 1, 3, "a"), told(api.OK, 1, 3, 3, "a")},
		{accept(0, 1, 4, "a"), told(api.OK, 1, 4, 4, "a")},
		{accept(0, 1, 6, "b"), told(api.OK, 1, 6, 6, "b")},
		{prepare(0, 1, 8), told(api.OK, 1, 8, 6, "b")},
		{accept(0, 1, 7, "c"), told(api.ErrStale, 1, 8, 6, "b")},
		{accept(0, 1, 6, "b"), told(api.ErrStale, 1, 8, 6, "b")},
		{accept(0, 1, 8, ""), told(api.OK, 1, 8, 8, "")},
		{accept(0, 1, 9, ""), told(api.OK, 1, 9, 9, "")},
		{accept(0, 1, lastNumber, "d"), told(api.OK, 1, lastNumber, lastNumber, "d")},
		{prepare(0, 1, lastNumber), told(api.ErrStale, 1, lastNumber, lastNumber, "d")},
		{accept(0, 2, 1, "e"), told(api.OK, 2, 1, 1, "e")},
		{accept(1, 1, 1, "f"), told(api.OK, 1, 1, 1, "f")},
		{accept(0, 1, 1, "g"), told(api.ErrStale, 1, lastNumber, lastNumber, "d")},
	})
}

// TestAcceptOfTheSameBallot: it is the ballot that decides, not which value came first.
func TestAcceptOfTheSameBallot(t *testing.T) {
	checkSteps(t, mustNew(t, 20), []step{
		{accept(0, 1, 3, "a"), told(api.OK, 1, 3, 3, "a")},
		{accept(0, 1, 3, "b"), told(api.OK, 1, 3, 3, "b")},
		{query(0), told(api.OK, 1, 3, 3, "b")},
	})
}

func TestAcceptOfALearnedValue(t *testing.T) {
	checkSteps(t, mustNew(t, 20), []step{
		{accept(0, 1, 3, "a"), told(api.OK, 1, 3, 3, "a")},
		{learn(0, 1, "a"), learned(api.OK, 1, 3, 3, "a")},
		{accept(0, 1, 2, "a"), learned(api.ErrStale, 1, 3, 3, "a")},
		{accept(0, 1, 3, "a"), learned(api.OK, 1, 3, 3, "a")},
		{accept(0, 1, 9, "a"), learned(api.OK, 1, 3, 3, "a")},
		{accept(0, 1, 3, "b"), learned(api.ErrStale, 1, 3, 3, "a")},
		{accept(0, 1, 9, "b"), learned(api.ErrStale, 1, 3, 3, "a")},
		{accept(0, 1, 9, ""), learned(api.ErrStale, 1, 3, 3, "a")},
		{learn(0, 2, ""), learned(api.OK, 2, 0, 1, "")},
		{accept(0, 2, 1, "a"), learned(api.ErrStale, 2, 0, 1, "")},
		{accept(0, 2, 1, ""), learned(api.OK, 2, 0, 1, "")},
	})
}

func TestLearn(t *testing.T) {
	checkSteps(t, mustNew(t, 20), []step{
		{learn(0, 1, "a"), learned(api.OK, 1, 0, 1, "a")},
		{learn(0, 1, "b"), learned(api.OK, 1, 0, 1, "a")},
		{learn(0, 1, "a"), learned(api.OK, 1, 0, 1, "a")},
		{prepare(0, 2, 4), told(api.OK, 2, 4, 0, "")},
		{learn(0, 2, "c"), learned(api.OK, 2, 4, 1, "c")},
		{accept(0, 3, 5, "d"), told(api.OK, 3, 5, 5, "d")},
		{learn(0, 3, "e"), learned(api.OK, 3, 5, 5, "e")},
		{learn(0, 3, "d"), learned(api.OK, 3, 5, 5, "e")},
		{accept(0, 4, 5, "f"), told(api.OK, 4, 5, 5, "f")},
		{prepare(0, 4, 6), told(api.OK, 4, 6, 5, "f")},
		{learn(0, 4, "f"), learned(api.OK, 4, 6, 5, "f")},
		{learn(0, 5, ""), learned(api.OK, 5, 0, 1, "")},
		{learn(0, 5, "g"), learned(api.OK, 5, 0, 1, "")},
		{learn(1, 1, "h"), learned(api.OK, 1, 0, 1, "h")},
		{learn(lastNumber, lastNumber, "i"), learned(api.OK, lastNumber, 0, 1, "i")},
	})
}

func TestQuery(t *testing.T) {
	checkSteps(t, mustNew(t, 20), []step{
		{query(0), acceptor.Answer{}},
		{query(lastNumber), acceptor.Answer{}},
		{prepare(0, 7, 5), told(api.OK, 7, 5, 0, "")},
		{query(0), acceptor.Answer{}},
		{accept(0, 3, 5, ""), told(api.OK, 3, 5, 5, "")},
		{query(0), told(api.OK, 3, 5, 5, "")},
		{learn(0, 2, "b"), learned(api.OK, 2, 0, 1, "b")},
		{query(0), told(api.OK, 3, 5, 5, "")},
		{prepare(0, 3, 8), told(api.OK, 3, 8, 5, "")},
		{query(0), told(api.OK, 3, 8, 5, "")},
		{learn(0, 4, "c"), learned(api.OK, 4, 0, 1, "c")},
		{query(0), learned(api.OK, 4, 0, 1, "c")},
		{query(1), acceptor.Answer{}},
		{accept(1, lastNumber, lastNumber, "d"), told(api.OK, lastNumber, lastNumber, lastNumber, "d")},
		{query(1), told(api.OK, lastNumber, lastNumber, lastNumber, "d")},
		{query(0), learned(api.OK, 4, 0, 1, "c")},
		{accept(0, 7, 5, "e"), told(api.OK, 7, 5, 5, "e")},
		{query(0), told(api.OK, 7, 5, 5, "e")},
	})
}

func TestNoAsk(t *testing.T) {
	a := mustNew(t, 8)
	checkAsk(t, a, accept(0, 1, 1, "z"), told(api.OK, 1, 1, 1, "z"))
	a.Cut(0)
	for _, b := range rubbish() {
		checkGetAnswer(t, a.Ask(b), acceptor.Answer{E: api.ErrForm})
	}
	checkUp(t, a, true)
	checkAsk(t, a, query(0), told(api.OK, 1, 1, 1, "z"))
}

func TestAsMuchValueAsMayBe(t *testing.T) {
	a := mustNew(t, api.MaxBlocks)
	most, other := string(filled(7, maxValue)), string(filled(8, maxValue))
	checkSteps(t, a, []step{
		{accept(0, 1, 1, most), told(api.OK, 1, 1, 1, most)},
		{prepare(0, 1, 2), told(api.OK, 1, 2, 1, most)},
		{learn(0, 1, other), learned(api.OK, 1, 2, 1, other)},
		{accept(0, 1, 2, most), learned(api.ErrStale, 1, 2, 1, other)},
	})
	a.Stop()
	checkStart(t, a, nil)
	checkAsk(t, a, query(0), learned(api.OK, 1, 2, 1, other))
}

// TestChanges asks without an operation left: just a change needs one.
func TestChanges(t *testing.T) {
	prepared := func() *acceptor.Acceptor {
		a := mustNew(t, 40)
		for _, q := range []acceptor.Ask{prepare(0, 1, 5), accept(0, 2, 5, "a"), accept(0, 3, 5, "b"), prepare(0, 3, 6), accept(0, 4, 5, "c"), learn(0, 4, "d")} {
			ask(t, a, q)
		}
		return a
	}
	for _, s := range []step{
		{prepare(0, 1, 5), told(api.ErrStale, 1, 5, 0, "")},
		{prepare(0, 2, 4), told(api.ErrStale, 2, 5, 5, "a")},
		{accept(0, 1, 4, ""), told(api.ErrStale, 1, 5, 0, "")},
		{accept(0, 2, 5, "a"), told(api.OK, 2, 5, 5, "a")},
		{accept(0, 3, 5, "b"), told(api.ErrStale, 3, 6, 5, "b")},
		{accept(0, 4, 9, "d"), learned(api.OK, 4, 5, 5, "d")},
		{accept(0, 4, 9, "c"), learned(api.ErrStale, 4, 5, 5, "d")},
		{learn(0, 4, "d"), learned(api.OK, 4, 5, 5, "d")},
		{learn(0, 4, "c"), learned(api.OK, 4, 5, 5, "d")},
		{query(0), learned(api.OK, 4, 5, 5, "d")},
		{query(1), acceptor.Answer{}},
	} {
		a := prepared()
		a.Cut(0)
		checkAsk(t, a, s.q, s.want)
		checkUp(t, a, true)
	}
	for _, q := range []acceptor.Ask{
		prepare(0, 1, 6), prepare(0, 4, 6), prepare(0, 9, 1), prepare(1, 1, 5),
		accept(0, 1, 5, ""), accept(0, 2, 5, "b"), accept(0, 2, 6, "a"), accept(0, 3, 6, "b"), accept(0, 9, 1, ""),
		learn(0, 1, "a"), learn(0, 2, "a"), learn(0, 3, "c"), learn(0, 9, ""),
	} {
		a := prepared()
		a.Cut(0)
		checkNothing(t, a, askBytes(q))
		checkUp(t, a, false)
	}
}

// P803: no room

func TestFull(t *testing.T) {
	checkSteps(t, mustNew(t, 2), []step{
		{accept(0, 1, 2, string(filled(1, 449))), told(api.ErrFull, 1, 0, 0, "")},
		{query(0), acceptor.Answer{}},
		{prepare(0, 1, 2), told(api.OK, 1, 2, 0, "")},
		{accept(0, 1, 2, string(filled(1, 209))), told(api.ErrFull, 1, 2, 0, "")},
		{accept(0, 1, 1, string(filled(1, 209))), told(api.ErrStale, 1, 2, 0, "")},
		{learn(0, 1, string(filled(1, 209))), told(api.ErrFull, 1, 2, 0, "")},
		{accept(0, 1, 2, string(filled(1, 208))), told(api.OK, 1, 2, 2, string(filled(1, 208)))},
		{accept(0, 1, 2, string(filled(1, 208))), told(api.OK, 1, 2, 2, string(filled(1, 208)))},
		{prepare(0, 1, 3), told(api.ErrFull, 1, 2, 2, string(filled(1, 208)))},
		{prepare(0, 1, 2), told(api.ErrStale, 1, 2, 2, string(filled(1, 208)))},
		{accept(0, 1, 3, "a"), told(api.ErrFull, 1, 2, 2, string(filled(1, 208)))},
		{learn(0, 1, "a"), told(api.ErrFull, 1, 2, 2, string(filled(1, 208)))},
		{prepare(0, 2, 1), told(api.ErrFull, 2, 0, 0, "")},
		{learn(1, 1, "a"), told(api.ErrFull, 1, 0, 0, "")},
		{query(1), acceptor.Answer{}},
		{query(0), told(api.OK, 1, 2, 2, string(filled(1, 208)))},
	})
}

// TestFullBehindALearn: what changes nothing is answered as ever.
func TestFullBehindALearn(t *testing.T) {
	a := mustNew(t, 1)
	checkAsk(t, a, learn(0, 1, "a"), learned(api.OK, 1, 0, 1, "a"))
	for range 2 {
		checkSteps(t, a, []step{
			{prepare(0, 1, 1), learned(api.ErrFull, 1, 0, 1, "a")},
			{accept(0, 1, 1, "a"), learned(api.OK, 1, 0, 1, "a")},
			{accept(0, 1, 1, "b"), learned(api.ErrStale, 1, 0, 1, "a")},
			{learn(0, 1, "b"), learned(api.OK, 1, 0, 1, "a")},
			{query(0), learned(api.OK, 1, 0, 1, "a")},
		})
		checkUp(t, a, true)
		a.Stop()
		checkStart(t, a, []int{9})
	}
}

// TestPlacesThatAreUsedUp: a key has no more of them than the greatest disk has blocks.
func TestPlacesThatAreUsedUp(t *testing.T) {
	a := mustNew(t, api.MaxBlocks)
	for n := 1; n < api.MaxSlots; n++ {
		checkAsk(t, a, prepare(5, 1, n), told(api.OK, 1, n, 0, ""))
	}
	const last = api.MaxSlots - 1
	checkAsk(t, a, accept(5, 1, last, "a"), told(api.OK, 1, last, last, "a"))
	for range 2 {
		checkSteps(t, a, []step{
			{prepare(5, 1, last+1), told(api.ErrFull, 1, last, last, "a")},
			{accept(5, 1, last, "b"), told(api.ErrFull, 1, last, last, "a")},
			{learn(5, 1, "a"), told(api.ErrFull, 1, last, last, "a")},
			{prepare(5, 2, 1), told(api.ErrFull, 2, 0, 0, "")},
			{prepare(6, 1, 1), told(api.ErrFull, 1, 0, 0, "")},
			{prepare(5, 1, last), told(api.ErrStale, 1, last, last, "a")},
			{accept(5, 1, last, "a"), told(api.OK, 1, last, last, "a")},
			{query(5), told(api.OK, 1, last, last, "a")},
		})
		checkUp(t, a, true)
		a.Stop()
		checkStart(t, a, nil)
	}
}

// P803: anything in any order

// anyAsk draws one out of so few keys, versions, ballots and values that they often meet.
func anyAsk(r *rand.Rand) acceptor.Ask {
	key := []int{0, 1, lastNumber}[r.IntN(3)]
	version := []int{1, 2, 3, lastNumber}[r.IntN(4)]
	ballot := []int{1, 2, 3, 4, 5, 6, 7, lastNumber}[r.IntN(8)]
	if ballot == lastNumber && r.IntN(4) > 0 {
		ballot = 1
	}
	value := string(filled(byte(r.IntN(2)), []int{0, 1, 1, 208, 209, 500}[r.IntN(6)]))
	switch r.IntN(8) {
	case 0, 1, 2:
		return prepare(key, version, ballot)
	case 3, 4, 5:
		return accept(key, version, ballot, value)
	case 6:
		return learn(key, version, value)
	}
	return query(key)
}

// TestAnyAsks holds an acceptor against the chapter's words.
func TestAnyAsks(t *testing.T) {
	r := rand.New(rand.NewPCG(80, 3))
	met := map[api.Errno]int{}
	for range 300 {
		blocks := 1 + r.IntN(80)
		a, p := mustNew(t, blocks), newPlain(blocks)
		for range 80 {
			if r.IntN(10) == 0 {
				a.Stop()
				checkStart(t, a, []int{r.IntN(3)})
			}
			q := anyAsk(r)
			want := p.ask(q)
			met[want.E]++
			checkAsk(t, a, q, want)
		}
	}
	for _, e := range []api.Errno{api.OK, api.ErrStale, api.ErrFull} {
		if met[e] < 100 {
			t.Errorf("only %d were answered %d", met[e], e)
		}
	}
}

func TestAnyBytes(t *testing.T) {
	r := rand.New(rand.NewPCG(80, 8))
	a := mustNew(t, 30)
	for range 20000 {
		b := askBytes(anyAsk(r))
		switch r.IntN(4) {
		case 0:
			b = make([]byte, r.IntN(30))
			for i := range b {
				b[i] = byte(r.Uint32())
			}
		case 1:
			b = frame(byte(2+r.IntN(3)), b[5:5+r.IntN(len(b)-8)])
		case 2:
			b[r.IntN(len(b))] ^= 1 << r.IntN(8)
		}
		_, e := acceptor.GetAsk(b)
		x, bad := acceptor.GetAnswer(a.Ask(b))
		if bad != api.OK || (e == api.ErrForm) != (x.E == api.ErrForm) {
			t.Fatalf("Ask(%x): %d, no answer: %d", head(b), x.E, bad)
		}
		if e == api.ErrForm && !sameAnswer(x, acceptor.Answer{E: api.ErrForm}) {
			t.Errorf("Ask(%x): %v", head(b), shortAnswer(x))
		}
	}
	checkUp(t, a, true)
}

// P801: what is handed in, what is answered

func TestAskKeepsNothing(t *testing.T) {
	for _, c := range []struct {
		q    acceptor.Ask
		want acceptor.Answer
	}{
		{accept(0, 1, 3, "data"), told(api.OK, 1, 3, 3, "data")},
		{learn(0, 1, "data"), learned(api.OK, 1, 0, 1, "data")},
	} {
		a := mustNew(t, 8)
		bytes := string(askBytes(c.q))
		b := roomy(bytes)
		x := a.Ask(b)
		checkRoom(t, b, bytes)
		spoil(b)
		spoil(x)
		spoil(b)
		checkRoom(t, b, bytes)
		spoil(b)
		checkAsk(t, a, query(0), c.want)
		spoil(a.Ask(askBytes(query(0))))
		checkAsk(t, a, query(0), c.want)
		spoil(a.Ask([]byte("x")))
		checkGetAnswer(t, a.Ask([]byte("x")), acceptor.Answer{E: api.ErrForm})
		a.Stop()
		checkStart(t, a, nil)
		checkAsk(t, a, query(0), c.want)
	}
}

func TestStartKeepsNothing(t *testing.T) {
	a := mustNew(t, 8)
	value := string(filled(1, 300))
	a.Cut(2)
	checkNothing(t, a, askBytes(accept(0, 1, 3, value)))
	choices := []int{1, 1, 5, 6}
	checkStart(t, a, choices[:2])
	if !slices.Equal(choices, []int{1, 1, 5, 6}) {
		t.Errorf("the choices are %v now", choices)
	}
	clear(choices)
	checkAsk(t, a, query(0), told(api.OK, 1, 3, 3, value))
}
