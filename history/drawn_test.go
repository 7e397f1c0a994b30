package history_test

import (
	"math/rand/v2"
	"slices"
	"strconv"
	"testing"

	"gazette/api"
	"gazette/history"
)

func seeded(n uint64) *rand.Rand { return rand.New(rand.NewPCG(n, 20)) }

// drawn is a history of so many calls, nearly any; times, offsets and values are few, so that much of it meets.
func drawn(r *rand.Rand, n int) []history.Call {
	var l []history.Call
	for i := range n {
		begin := r.IntN(8)
		end := begin + 1 + r.IntN(8)
		switch v := values(i, i+1)[0]; r.IntN(7) {
		case 0, 1:
			l = append(l, put(v, begin, end, r.IntN(3)))
		case 2, 3:
			l = append(l, open(v, begin))
		case 4, 5:
			var seen []string
			for range r.IntN(3) {
				seen = append(seen, values(0, n)[r.IntN(n)])
			}
			l = append(l, get(begin, end, seen...))
		default:
			l = append(l, ask(begin))
		}
	}
	return l
}

// deed is a call as it was done: at a time of its own.
type deed struct {
	history.Call
	at int
}

// played is a history of calls that were done one by one on a log, each at some time within its Begin and End, of which some appends are told as not done; and of those calls how long the log became. The longer span is, the more calls run side by side; one in so many appends, if that is not 0, is told as not done. Some appends and reads were never done.
func played(r *rand.Rand, n, span, oneIn int) (l []history.Call, length int) {
	var deeds []deed
	for i := range n {
		at := 1 + r.IntN(2*n)
		d := deed{at: at}
		d.Begin, d.End = max(at-r.IntN(span+1), 0), at+r.IntN(span+1)
		if d.End == d.Begin {
			d.End++
		}
		d.Done = true
		if d.Read = r.IntN(2) == 0; !d.Read {
			d.Value = strconv.Itoa(i)
		}
		deeds = append(deeds, d)
	}
	// Of those of one time any may be first.
	slices.SortStableFunc(deeds, func(a, b deed) int { return a.at - b.at })
	var log []string
	for _, d := range deeds {
		switch {
		case d.Read && r.IntN(20) == 0:
			d.Call = ask(d.Begin)
		case d.Read:
			d.Values = slices.Clone(log)
		default:
			d.Offset = len(log)
			if r.IntN(20) > 0 {
				log = append(log, d.Value)
			} else {
				d.Call = open(d.Value, d.Begin)
			}
			if oneIn > 0 && r.IntN(oneIn) == 0 {
				d.Call = open(d.Value, d.Begin)
			}
		}
		l = append(l, d.Call)
	}
	return shuffled(r, l), len(log)
}

// P2004

// TestAllOfFewCalls: each history of at most three calls, of a few words.
func TestAllOfFewCalls(t *testing.T) {
	var words []history.Call
	for begin := range 3 {
		for _, v := range []string{"a", "b"} {
			words = append(words, open(v, begin))
		}
		words = append(words, ask(begin))
		for end := begin + 1; end < 4; end++ {
			for _, v := range []string{"a", "b"} {
				words = append(words, put(v, begin, end, 0), put(v, begin, end, 1))
			}
			for _, seen := range [][]string{nil, {"a"}, {"b"}, {"a", "b"}, {"b", "a"}, {"a", "a"}} {
				words = append(words, get(begin, end, seen...))
			}
		}
	}
	count := map[api.Errno]int{}
	hold := func(l ...history.Call) {
		e := history.Check(l)
		if want := plainCheck(l); e != want {
			t.Fatalf("Check(%+v): %d, not %d", l, e, want)
		}
		count[e]++
	}
	for i, a := range words {
		hold(a)
		for j, b := range words[i:] {
			hold(a, b)
			for _, c := range words[i:][j:] {
				hold(a, b, c)
			}
		}
	}
	if count[api.OK] < 1000 || count[api.ErrOrder] < 1000 || count[api.ErrArg] < 1000 {
		t.Errorf("too few of one kind: %v", count)
	}
}

// TestAnyCalls: drawn histories of up to seven calls, and such as were played and spoilt a little.
func TestAnyCalls(t *testing.T) {
	r := seeded(4)
	count := map[api.Errno]int{}
	hold := func(l []history.Call) {
		e := history.Check(l)
		if want := plainCheck(l); e != want {
			t.Fatalf("Check(%+v): %d, not %d", l, e, want)
		}
		count[e]++
	}
	for range 20000 {
		hold(drawn(r, 1+r.IntN(7)))
	}
	for range 20000 {
		l, _ := played(r, 1+r.IntN(7), 1+r.IntN(6), 3)
		for range r.IntN(4) {
			spoil(r, l)
		}
		hold(l)
	}
	if count[api.OK] < 5000 || count[api.ErrOrder] < 5000 || count[api.ErrArg] < 100 {
		t.Errorf("too few of one kind: %v", count)
	}
}

// TestMoreCalls: up to twelve, played and spoilt a little.
func TestMoreCalls(t *testing.T) {
	r := seeded(8)
	count := map[api.Errno]int{}
	for range 6000 {
		l, _ := played(r, 8+r.IntN(5), 1+r.IntN(12), 2)
		for range r.IntN(9) {
			spoil(r, l)
		}
		e := history.Check(l)
		count[e]++
		if e == api.ErrArg {
			continue
		}
		if want := searchedCheck(l); e != want {
			t.Fatalf("Check(%+v): %d, not %d", l, e, want)
		}
	}
	if count[api.OK] < 1000 || count[api.ErrOrder] < 1000 {
		t.Errorf("too few of one kind: %v", count)
	}
}

// spoil changes a word of a call.
func spoil(r *rand.Rand, l []history.Call) {
	c := &l[r.IntN(len(l))]
	switch r.IntN(7) {
	case 0:
		c.Begin = max(c.Begin+r.IntN(9)-4, 0)
	case 1:
		if c.Done {
			c.End = max(c.End+r.IntN(9)-4, c.Begin+1)
		}
	case 2:
		if c.Done && !c.Read {
			c.Offset = max(c.Offset+r.IntN(3)-1, 0)
		}
	case 3:
		if len(c.Values) > 0 {
			c.Values = c.Values[:len(c.Values)-1]
		}
	case 4:
		if n := len(c.Values); n > 1 {
			i := r.IntN(n - 1)
			c.Values[i], c.Values[i+1] = c.Values[i+1], c.Values[i]
		}
	case 5:
		if !c.Read {
			*c = open(c.Value, c.Begin)
		}
	default:
		if !c.Read {
			c.Value = values(0, len(l))[r.IntN(len(l))]
		}
	}
}

// P2005

func TestWhatReallyHappened(t *testing.T) {
	r := seeded(5)
	for n := range 1000 {
		size := 1 + r.IntN(40)
		if n%100 == 99 {
			size = 1000 - r.IntN(2)
		}
		l, _ := played(r, size, r.IntN(2*size+2), []int{0, 1, 2, 3, 10}[r.IntN(5)])
		if e := history.Check(l); e != api.OK || !history.Right(l) {
			t.Fatalf("Check(%+v): %d", brief(l), e)
		}
	}
}

// TestWhatIsToldIsShown: the log was as long as Shown tells, at least; and just so long where all are told as done.
func TestWhatIsToldIsShown(t *testing.T) {
	r := seeded(6)
	for range 400 {
		l, length := played(r, 1+r.IntN(60), 5, 0)
		checkShown(t, l, length)
		l, length = played(r, 1+r.IntN(60), 5, 2)
		if n := history.Shown(l); n > length {
			t.Errorf("Shown(%+v): %d, of a log of %d", brief(l), n, length)
		}
	}
}

// P2006

func TestWithoutReads(t *testing.T) {
	r := seeded(7)
	hold := func(l []history.Call) {
		for range 3 {
			m := without(l, func(c history.Call) bool { return c.Read && r.IntN(2) == 0 })
			if e := history.Check(m); e != api.OK {
				t.Fatalf("Check(%+v) without some reads, %+v: %d", brief(l), brief(m), e)
			}
		}
		m := without(l, func(c history.Call) bool { return c.Read })
		if e := history.Check(m); e != api.OK {
			t.Fatalf("Check(%+v) without reads, %+v: %d", brief(l), brief(m), e)
		}
	}
	count := 0
	for range 20000 {
		if l := drawn(r, 1+r.IntN(8)); history.Check(l) == api.OK {
			count++
			hold(l)
		}
	}
	for range 2000 {
		l, _ := played(r, 1+r.IntN(50), r.IntN(20), r.IntN(4))
		hold(l)
	}
	if count < 1000 {
		t.Errorf("only %d that are OK", count)
	}
}

// TestAsMuchAsMayBe: 1000 calls, most of them reads, or most of them appends.
func TestAsMuchAsMayBe(t *testing.T) {
	names := values(0, 999)
	var half, most, none []history.Call
	for i, v := range names[:500] {
		half = append(half, put(v, i, 1000, i), get(i, 2000, names[:500]...))
		none = append(none, get(0, 1, names...), get(0, 1, names...))
	}
	for i, v := range names {
		most = append(most, put(v, i, i+1, i))
	}
	most = append(most, get(lastTime-1, lastTime, names...))
	check(t, half, api.OK)
	checkShown(t, half, 500)
	check(t, most, api.OK)
	checkShown(t, most, 999)
	check(t, none, api.ErrOrder)
	checkShown(t, none, 999)

	half[999].Values = slices.Clone(half[999].Values)
	half[999].Values[499] = "499x"
	check(t, half, api.ErrOrder)
	most[0].End = lastTime
	check(t, most, api.OK)
	most[999].Begin, most[999].End = 998, lastTime
	check(t, most, api.OK)
	most[998].Begin, most[998].End, most[999].Begin, most[999].End = 100, 101, 99, 100
	check(t, most, api.ErrOrder)

	// A thousand places, of which each second one is filled by an append that is not done.
	var gaps []history.Call
	for i, v := range values(0, 1000) {
		if i%2 == 1 {
			gaps = append(gaps, put(v, 10*i, 10*i+5, i))
		} else {
			gaps = append(gaps, open(v, 10*i+15))
		}
	}
	check(t, gaps, api.OK)
	checkShown(t, gaps, 1000)
	for _, i := range []int{0, 2, 500, 996, 998} {
		gaps[i].Begin++
		check(t, gaps, api.ErrOrder)
		gaps[i].Begin--
	}
}
