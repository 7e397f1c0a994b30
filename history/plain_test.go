package history_test

import (
	"slices"
	"strings"
	"testing"

	"gazette/api"
	"gazette/history"
)

// plainRight is whether a history may be, word by word.
func plainRight(l []history.Call) bool {
	right := len(l) <= 1000
	for i, c := range l {
		right = right && 0 <= c.Begin && c.Begin <= lastTime
		if c.Done {
			right = right && c.End > c.Begin && c.End <= lastTime
		} else {
			right = right && c.End == 0 && c.Offset == 0 && len(c.Values) == 0
		}
		if c.Read {
			right = right && c.Value == "" && c.Offset == 0 && len(c.Values) <= 1000
		} else {
			right = right && len(c.Values) == 0 && (!c.Done || 0 <= c.Offset && c.Offset <= 999)
			for _, d := range l[:i] {
				right = right && (d.Read || d.Value != c.Value)
			}
		}
	}
	return right
}

// plainCheck goes through all orders of all calls that are done and of some of the appends that are not.
func plainCheck(l []history.Call) api.Errno {
	if !plainRight(l) {
		return api.ErrArg
	}
	var done, waiting []history.Call
	for _, c := range l {
		if c.Done {
			done = append(done, c)
		} else if !c.Read {
			waiting = append(waiting, c)
		}
	}
	for some := range 1 << len(waiting) {
		these := slices.Clone(done)
		for i, c := range waiting {
			if some>>i&1 == 1 {
				these = append(these, c)
			}
		}
		if anyOrder(these, 0) {
			return api.OK
		}
	}
	return api.ErrOrder
}

// anyOrder tells whether an order will do that begins with so many of the calls as they stand.
func anyOrder(l []history.Call, from int) bool {
	if from == len(l) {
		return isPlayed(l) && keepsTimes(l)
	}
	for i := from; i < len(l); i++ {
		l[from], l[i] = l[i], l[from]
		// What begins wrongly ends so.
		if isPlayed(l[:from+1]) && anyOrder(l, from+1) {
			return true
		}
		l[from], l[i] = l[i], l[from]
	}
	return false
}

// isPlayed tells whether each call that is done was told what it finds on a log, done one by one.
func isPlayed(l []history.Call) bool {
	var log []string
	for _, c := range l {
		if c.Read {
			if !slices.Equal(c.Values, log) {
				return false
			}
			continue
		}
		if c.Done && c.Offset != len(log) {
			return false
		}
		log = append(log, c.Value)
	}
	return true
}

// keepsTimes tells whether none is ahead of one that ended ahead of its Begin.
func keepsTimes(l []history.Call) bool {
	for i, c := range l {
		for _, d := range l[i:] {
			if d.Done && d.End < c.Begin {
				return false
			}
		}
	}
	return true
}

func TestThePlainOne(t *testing.T) {
	for _, x := range []struct {
		l    []history.Call
		want api.Errno
	}{
		{nil, api.OK},
		{[]history.Call{put("a", 0, 1, 0), get(2, 3, "a")}, api.OK},
		{[]history.Call{put("a", 0, 1, 0), get(2, 3)}, api.ErrOrder},
		{[]history.Call{open("a", 0), get(1, 2, "a")}, api.OK},
		{[]history.Call{put("a", 0, 1, 0), put("b", 0, 1, 0)}, api.ErrOrder},
		{[]history.Call{put("a", 0, 1, 1), open("b", 0)}, api.OK},
		{[]history.Call{put("a", 0, 1, 1), open("b", 2)}, api.ErrOrder},
		{[]history.Call{put("a", 1, 1, 0)}, api.ErrArg},
	} {
		if e := plainCheck(x.l); e != x.want {
			t.Errorf("%+v: %d, not %d", x.l, e, x.want)
		}
	}
}

// searched is plainCheck of a history that may be, for more calls: it does one call behind the other, and goes on from what was done and the log that came of it but once.
type searched struct {
	l    []history.Call
	been map[point]bool
}

type point struct {
	done int // a bit a call
	log  string
}

func searchedCheck(l []history.Call) api.Errno {
	s := searched{without(l, func(c history.Call) bool { return c.Read && !c.Done }), map[point]bool{}}
	if s.goesOn(0, nil) {
		return api.OK
	}
	return api.ErrOrder
}

func (s *searched) goesOn(done int, log []string) bool {
	p := point{done, strings.Join(log, " ")}
	if s.been[p] {
		return false
	}
	s.been[p] = true
	all := true
	for i, c := range s.l {
		if done>>i&1 == 1 {
			continue
		}
		all = all && !c.Done
		next := done | 1<<i
		switch {
		case s.isLate(done, c), c.Read && !slices.Equal(c.Values, log), c.Done && !c.Read && c.Offset != len(log):
		case c.Read && s.goesOn(next, log), !c.Read && s.goesOn(next, append(slices.Clone(log), c.Value)):
			return true
		}
	}
	return all
}

// isLate tells whether a call that is still to be done ended ahead of the Begin of this one.
func (s *searched) isLate(done int, c history.Call) bool {
	for i, d := range s.l {
		if done>>i&1 == 0 && d.Done && d.End < c.Begin {
			return true
		}
	}
	return false
}
