package loglet

import "gazette/api"

// tally has how many replies say what.
type tally map[api.Errno]int

// verdict is OK where a quorum says so; else the first of these errors that some reply has.
func (t tally) verdict(c Config, ranked ...api.Errno) api.Errno {
	if t[api.OK] >= Quorum(c) {
		return api.OK
	}
	return t.first(ranked...)
}

// first goes by the rank of the errors, not by which reply came first.
func (t tally) first(ranked ...api.Errno) api.Errno {
	for _, e := range ranked {
		if t[e] > 0 {
			return e
		}
	}
	return api.ErrLost
}

// sum tells how many replies there were.
func (t tally) sum() int {
	all := 0
	for _, n := range t {
		all += n
	}
	return all
}
