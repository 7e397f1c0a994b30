package history_test

import (
	"math"
	"strings"
	"sync"
	"testing"

	"gazette/api"
	"gazette/history"
)

// P2001

// TestNoCalls: nothing and an empty list mean the same, of calls and of values.
func TestNoCalls(t *testing.T) {
	for _, l := range [][]history.Call{nil, {}, make([]history.Call, 0, 8)} {
		check(t, l, api.OK)
		checkShown(t, l, 0)
	}
	for _, none := range [][]string{nil, {}, make([]string, 0, 8)} {
		for _, c := range []history.Call{put("a", 0, 1, 0), open("a", 0), get(0, 1), ask(0)} {
			c.Values = none
			check(t, []history.Call{c}, api.OK)
		}
	}
}

// TestAnyArguments: whatever a call says, there is an answer, and it is as the document's words have it.
func TestAnyArguments(t *testing.T) {
	for _, begin := range extremes {
		for _, end := range extremes {
			for _, offset := range extremes {
				for i := range 16 {
					c := history.Call{Read: i&1 > 0, Done: i&2 > 0, Begin: begin, End: end, Offset: offset}
					if i&4 > 0 {
						c.Value = "a"
					}
					if i&8 > 0 {
						c.Values = []string{"a"}
					}
					l := []history.Call{c}
					check(t, l, plainCheck(l))
					want := 0
					if plainRight(l) && c.Done && c.Read {
						want = len(c.Values)
					} else if plainRight(l) && c.Done {
						want = offset + 1
					}
					checkShown(t, l, want)
				}
			}
		}
	}
}

// TestTheOrderOfTheListIsNothing, nor is what was asked before.
func TestTheOrderOfTheListIsNothing(t *testing.T) {
	r := seeded(1)
	for range 400 {
		l := drawn(r, 1+r.IntN(8))
		want, right, shown := history.Check(l), history.Right(l), history.Shown(l)
		for range 4 {
			m := shuffled(r, l)
			check(t, m, want)
			if history.Right(m) != right || history.Shown(m) != shown {
				t.Errorf("%+v: the order of the list is to be seen", m)
			}
		}
	}
}

// TestWhatIsHandedInStays as it was, and so does the room behind it.
func TestWhatIsHandedInStays(t *testing.T) {
	r := seeded(2)
	for range 400 {
		var l []history.Call
		if r.IntN(2) == 0 {
			l = drawn(r, 1+r.IntN(8))
		} else {
			l, _ = played(r, 1+r.IntN(40), 3, 0)
		}
		room := append(shuffled(r, l), put("room", 5, 6, 7), get(7, 8, "behind"))
		for i := range room {
			room[i].Values = append(room[i].Values, "room", "behind")
		}
		was := clone(room)
		given := clone(room)[:len(l)]
		for i := range given {
			given[i].Values = room[i].Values[:len(room[i].Values)-2]
		}
		whole := append(given, room[len(l):]...)
		history.Right(given)
		history.Check(given)
		history.Shown(given)
		for i := range whole {
			whole[i].Values = room[i].Values
		}
		if !isSame(whole, was) {
			t.Fatalf("what was handed in is changed: %+v, not %+v", whole, was)
		}
	}
}

// TestManyAtOnce: calls that run side by side have nothing to do with each other.
func TestManyAtOnce(t *testing.T) {
	r := seeded(3)
	l, _ := played(r, 60, 5, 0)
	wrong := append(clone(l), put("more", 0, 1, 0), put("and more", 0, 1, 0))
	var w sync.WaitGroup
	for range 8 {
		w.Go(func() {
			for range 20 {
				check(t, l, api.OK)
				check(t, wrong, api.ErrOrder)
			}
		})
	}
	w.Wait()
}

// P2002

func TestRight(t *testing.T) {
	for _, x := range []struct {
		c    history.Call
		want bool
	}{
		{put("a", 0, 1, 0), true}, {put("a", 0, 1, 999), true}, {put("a", 0, 1, 998), true},
		{put("a", 0, 1, -1), false}, {put("a", 0, 1, 1000), false}, {put("a", 0, 1, 1001), false},
		{put("a", 0, 1, math.MaxInt), false}, {put("a", 0, 1, math.MinInt), false}, {put("a", 0, 1, 1<<32), false},

		{put("a", -1, 1, 0), false}, {put("a", 0, 0, 0), false}, {put("a", 5, 4, 0), false}, {put("a", 5, 5, 0), false},
		{put("a", 5, 6, 0), true}, {put("a", 0, -1, 0), false}, {put("a", -2, -1, 0), false},
		{put("a", 0, lastTime, 0), true}, {put("a", 0, lastTime+1, 0), false},
		{put("a", lastTime-1, lastTime, 0), true}, {put("a", lastTime, lastTime, 0), false},
		{put("a", lastTime, lastTime+1, 0), false}, {put("a", lastTime+1, lastTime+2, 0), false},
		{get(0, 0), false}, {get(0, 1), true}, {get(-1, 1), false}, {get(5, 5), false}, {get(5, 4), false},
		{get(0, lastTime), true}, {get(0, lastTime+1), false}, {get(lastTime, lastTime+1), false}, {get(lastTime-1, lastTime), true},

		{open("a", 0), true}, {open("a", lastTime), true}, {open("a", lastTime+1), false}, {open("a", -1), false},
		{ask(0), true}, {ask(lastTime), true}, {ask(lastTime + 1), false}, {ask(-1), false},
		{ask(math.MaxInt), false}, {ask(math.MinInt), false},
		{history.Call{Begin: 1, End: 2, Value: "a"}, false}, {history.Call{Begin: 1, End: -1, Value: "a"}, false},
		{history.Call{Begin: 0, End: 1, Value: "a"}, false}, {history.Call{Offset: 1, Value: "a"}, false},
		{history.Call{Offset: -1, Value: "a"}, false}, {history.Call{Value: "a", Values: []string{"a"}}, false},
		{history.Call{Read: true, End: 1}, false}, {history.Call{Read: true, Offset: 1}, false},
		{history.Call{Read: true, Values: []string{""}}, false}, {history.Call{Read: true, Value: "a"}, false},

		{history.Call{Done: true, End: 1, Value: "a", Values: []string{"a"}}, false},
		{history.Call{Done: true, End: 1, Values: []string{""}}, false},
		{history.Call{Read: true, Done: true, End: 1, Value: "a"}, false},
		{history.Call{Read: true, Done: true, End: 1, Offset: 1}, false},
		{history.Call{Read: true, Done: true, End: 1, Offset: -1}, false},
		{get(0, 1, values(0, 999)...), true}, {get(0, 1, values(0, 1000)...), true}, {get(0, 1, values(0, 1001)...), false},
		{get(0, 1, make([]string, 1000)...), true}, {get(0, 1, make([]string, 1<<20)...), false},
		{put("", 0, 1, 0), true}, {open("", 0), true}, {history.Call{}, true}, {put(strings.Repeat("a", 1<<20), 0, 1, 0), true},
	} {
		for _, l := range [][]history.Call{
			{x.c}, {put("first", 0, 1, 0), x.c}, {x.c, get(4, 9)}, {get(0, 1), open("between", 2), x.c, ask(0)},
		} {
			if got := history.Right(l); got != x.want {
				t.Errorf("Right(%+v): %v", brief(l), got)
			}
			if e := history.Check(l); (e != api.ErrArg) != x.want {
				t.Errorf("Check(%+v): %d", brief(l), e)
			}
			if !x.want {
				checkShown(t, l, 0)
			}
		}
	}
}

// TestHowManyCalls there may be: 1000, whichever they are.
func TestHowManyCalls(t *testing.T) {
	for n, want := range map[int]api.Errno{999: api.OK, 1000: api.OK, 1001: api.ErrArg, 1 << 16: api.ErrArg} {
		var puts, opens, gets, asks []history.Call
		for i, v := range values(0, n) {
			puts = append(puts, put(v, i, i+1, min(i, 999)))
			opens = append(opens, open(v, i))
			gets = append(gets, get(i, i+1))
			asks = append(asks, ask(i))
		}
		for _, l := range [][]history.Call{puts, opens, gets, asks} {
			check(t, l, want)
		}
		if want == api.OK {
			checkShown(t, puts, n)
		} else {
			checkShown(t, puts, 0)
		}
	}
}

// TestTheSameValue: no two appends have it, whether they are done or not, wherever they stand in the list.
func TestTheSameValue(t *testing.T) {
	for _, v := range []string{"a", "", "\x00", "ä", strings.Repeat("long", 1000)} {
		for _, a := range []history.Call{put(v, 0, 1, 0), open(v, 0)} {
			check(t, []history.Call{a}, api.OK)
			for _, b := range []history.Call{put(v, 2, 3, 1), open(v, 2)} {
				check(t, []history.Call{a, b}, api.ErrArg)
				check(t, []history.Call{b, a}, api.ErrArg)
				check(t, []history.Call{a, open("other", 1), get(0, 9), b}, api.ErrArg)
				checkShown(t, []history.Call{a, b}, 0)
				b.Value += "x"
				check(t, []history.Call{open("other", 0), a, b, ask(3)}, api.OK)
			}
		}
	}
	// Reads that show the same are none of it.
	check(t, []history.Call{put("a", 0, 1, 0), get(0, 9, "a"), get(0, 9, "a"), get(1, 2), ask(0), ask(0)}, api.OK)
	check(t, []history.Call{put("", 0, 1, 0), get(2, 3, ""), ask(0)}, api.OK)
}

// P2003

func TestShown(t *testing.T) {
	for _, x := range []struct {
		l    []history.Call
		want int
	}{
		{[]history.Call{put("a", 0, 1, 4)}, 5}, {[]history.Call{put("a", 0, 1, 0)}, 1}, {[]history.Call{put("a", 0, 1, 999)}, 1000},
		{[]history.Call{get(0, 1)}, 0}, {[]history.Call{get(0, 1, "x")}, 1}, {[]history.Call{get(0, 1, values(0, 1000)...)}, 1000},
		{[]history.Call{open("a", 0), open("b", 0), ask(1)}, 0},
		{[]history.Call{put("a", 0, 1, 4), open("b", 0), get(0, 1, "x", "y")}, 5},
		{[]history.Call{get(0, 1, "x", "y"), put("a", 0, 1, 1)}, 2}, {[]history.Call{get(0, 1, "x", "y"), put("a", 0, 1, 2)}, 3},
		{[]history.Call{get(0, 1, "x", "y"), put("a", 0, 1, 0)}, 2},
		{[]history.Call{put("a", 0, 1, 4), put("b", 0, 1, 7), put("c", 0, 1, 2)}, 8},
		{[]history.Call{get(0, 1, "x"), get(0, 1, "x", "x", "x"), get(0, 1)}, 3},
		// Those that may not be.
		{[]history.Call{put("a", 0, 1, 4), put("a", 0, 1, 5)}, 0}, {[]history.Call{put("a", 0, 1, 1000)}, 0},
		{[]history.Call{get(0, 1, values(0, 1001)...)}, 0}, {[]history.Call{put("a", 0, 1, 4), ask(-1)}, 0},
		{[]history.Call{{Begin: -1}, put("a", 0, 1, 4)}, 0},
	} {
		checkShown(t, x.l, x.want)
	}
}
