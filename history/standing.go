package history

import (
	"cmp"
	"slices"
)

// standing is where appends stand in the log: both maps say the same, from either side.
type standing struct {
	at    map[int]int // by places: the append there
	place map[int]int // by appends
}

// put has an append stand at a place, and tells whether it does: not where another one stands, nor where it stands elsewhere.
func (s *standing) put(call, place int) bool {
	if there, is := s.at[place]; is {
		return there == call
	}
	if _, is := s.place[call]; is {
		return false
	}
	s.at[place], s.place[call] = call, place
	return true
}

// hear has the appends stand where the calls that are done saw them; it tells whether these agree.
func (s *standing) hear(l []Call) bool {
	by, _ := writers(l)
	for i, c := range l {
		if c.Done && !c.Read && !s.put(i, c.Offset) {
			return false
		}
		for place, value := range c.Values {
			if call, is := by[value]; !is || !s.put(call, place) {
				return false
			}
		}
	}
	return true
}

// fill has appends that nobody heard of stand where nobody saw what does, below what was shown; it tells whether there are enough of them. Nothing but its Begin binds such an append, and the earlier that is the less; and the lower a place, the more calls come behind it: so they stand there by their Begin. Those that are left were never done.
func (s *standing) fill(l []Call) bool {
	waiting := undone(l)
places:
	for place := range Shown(l) {
		if _, is := s.at[place]; is {
			continue
		}
		for len(waiting) > 0 {
			first := waiting[0]
			waiting = waiting[1:]
			if s.put(first, place) {
				continue places
			}
		}
		return false
	}
	return true
}

// undone are the appends that are not done, by their Begin.
func undone(l []Call) []int {
	var these []int
	for i, c := range l {
		if !c.Read && !c.Done {
			these = append(these, i)
		}
	}
	slices.SortFunc(these, func(i, j int) int { return cmp.Compare(l[i].Begin, l[j].Begin) })
	return these
}
