package history_test

import (
	"math"
	"math/rand/v2"
	"slices"
	"strconv"
	"testing"

	"gazette/api"
	"gazette/history"
)

const lastTime = 1_000_000_000

// extremes are numbers that no time and no offset has, and some that one has.
var extremes = []int{
	math.MinInt, math.MinInt + 1, -1 << 32, -2, -1, 0, 1, 2, 998, 999, 1000, 1001,
	lastTime - 1, lastTime, lastTime + 1, 1 << 31, 1 << 32, 1<<32 + 1, math.MaxInt - 1, math.MaxInt,
}

// put is an append that was told an offset.
func put(value string, begin, end, offset int) history.Call {
	return history.Call{Done: true, Begin: begin, End: end, Offset: offset, Value: value}
}

// open is an append that did not end.
func open(value string, begin int) history.Call {
	return history.Call{Begin: begin, Value: value}
}

// get is a read that was told values.
func get(begin, end int, values ...string) history.Call {
	return history.Call{Read: true, Done: true, Begin: begin, End: end, Values: values}
}

// ask is a read that did not end.
func ask(begin int) history.Call {
	return history.Call{Read: true, Begin: begin}
}

func check(t *testing.T, l []history.Call, want api.Errno) {
	t.Helper()
	if e := history.Check(l); e != want {
		t.Errorf("Check(%+v): %d, not %d", brief(l), e, want)
	}
	if right := history.Right(l); right != (want != api.ErrArg) {
		t.Errorf("Right(%+v): %v, beside %d of Check", brief(l), right, want)
	}
}

func checkShown(t *testing.T, l []history.Call, want int) {
	t.Helper()
	if n := history.Shown(l); n != want {
		t.Errorf("Shown(%+v): %d, not %d", brief(l), n, want)
	}
}

// brief is as much of a history as a reader wants to see.
func brief(l []history.Call) []history.Call {
	short := clone(l[:min(len(l), 10)])
	for i := range short {
		short[i].Values = short[i].Values[:min(len(short[i].Values), 10)]
	}
	return short
}

// values are those from a number on, below another one.
func values(from, to int) []string {
	var l []string
	for i := from; i < to; i++ {
		l = append(l, strconv.Itoa(i))
	}
	return l
}

func clone(l []history.Call) []history.Call {
	l = slices.Clone(l)
	for i := range l {
		l[i].Values = slices.Clone(l[i].Values)
	}
	return l
}

func isSame(a, b []history.Call) bool {
	return slices.EqualFunc(a, b, func(x, y history.Call) bool {
		return x.Read == y.Read && x.Done == y.Done && x.Begin == y.Begin && x.End == y.End && x.Offset == y.Offset &&
			x.Value == y.Value && slices.Equal(x.Values, y.Values)
	})
}

// without is a history without some of its calls.
func without(l []history.Call, gone func(history.Call) bool) []history.Call {
	return slices.DeleteFunc(clone(l), gone)
}

func shuffled(r *rand.Rand, l []history.Call) []history.Call {
	l = clone(l)
	r.Shuffle(len(l), func(i, j int) { l[i], l[j] = l[j], l[i] })
	return l
}
