package history

import (
	"cmp"
	"math"
	"slices"
)

// never is later than all times: a call that is not done did not end.
const never = math.MaxInt

// step is a call of an order.
type step struct {
	level      int // twice the length of the log ahead of it, and 1 of an append: behind the reads of what is ahead of it
	begin, end int
}

// order is the only one that is right for the log, but for reads of as many values, which are free among each other: they come by their Begin, so that none ended ahead of one that is ahead of it.
func (s *standing) order(l []Call) []step {
	var steps []step
	for i, c := range l {
		place, stands := s.place[i]
		switch {
		case stands && c.Done:
			steps = append(steps, step{2*place + 1, c.Begin, c.End})
		case stands:
			steps = append(steps, step{2*place + 1, c.Begin, never})
		case c.Done:
			steps = append(steps, step{2 * len(c.Values), c.Begin, c.End})
		}
	}
	slices.SortFunc(steps, func(a, b step) int {
		return cmp.Or(cmp.Compare(a.level, b.level), cmp.Compare(a.begin, b.begin))
	})
	return steps
}

// isTimely tells whether no step of an order ended ahead of the Begin of one that is ahead of it.
func isTimely(order []step) bool {
	latest, soonest := sides(order, func(s step) int { return s.begin }, func(s step) int { return s.end })
	for i := range order {
		if latest[i] > soonest[i] {
			return false
		}
	}
	return true
}

// sides goes through a list from both sides: at each item it tells the greatest of what front says from the list's beginning up to it, and the least of what back says from it to the end.
func sides[T any](l []T, front, back func(T) int) (greatest, least []int) {
	greatest, least = make([]int, len(l)), make([]int, len(l))
	high, low := math.MinInt, math.MaxInt
	for i, x := range l {
		high = max(high, front(x))
		greatest[i] = high
	}
	for i, x := range slices.Backward(l) {
		low = min(low, back(x))
		least[i] = low
	}
	return greatest, least
}
