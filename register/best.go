package register

import "gazette/acceptor"

// best finds the first one that none is better than; of no list it is the zero value, which as an answer tells nothing.
func best[T any](list []T, better func(a, b T) bool) T {
	var found T
	for i, x := range list {
		if i == 0 || better(x, found) {
			found = x
		}
	}
	return found
}

// newer puts the later version first, and of one version what is known to be agreed on.
func newer(a, b acceptor.Answer) bool {
	if a.Version != b.Version {
		return a.Version > b.Version
	}
	return surer(a, b)
}

func surer(a, b acceptor.Answer) bool { return a.Learned && !b.Learned }

func accepted(a, b acceptor.Answer) bool { return a.Ballot > b.Ballot }

func promised(a, b acceptor.Answer) bool { return a.Promised > b.Promised }
