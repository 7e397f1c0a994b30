package register_test

import (
	"fmt"
	"iter"
	"maps"
	"math/rand/v2"
	"testing"

	"gazette/api"
	"gazette/register"
)

// spot is a version of a key.
type spot struct{ key, version int }

// story is a register, its callers, and all that befalls them. Beside those whose calls are one step there are slow ones: they do what the chapter says message by message, and everything else goes on in between.
type story struct {
	t      *testing.T
	r      *rand.Rand
	link   *register.Link
	slow   []func() bool // each goes on up to its next message, and tells whether there is one
	wanted map[spot]map[string]int
	values map[spot]string // what was read, or made by a Swap that was OK
	floor  map[int]int     // by keys: the greatest version of these
	counts map[string]int
}

func newStory(t *testing.T, seed uint64, counts map[string]int) *story {
	s := &story{t: t, r: rand.New(rand.NewPCG(seed, 905)), counts: counts}
	s.wanted, s.values, s.floor = map[spot]map[string]int{}, map[spot]string{}, map[int]int{}
	s.link = mustLink(t, 0)
	for range 1 + seed%5 {
		s.link.Acceptors = append(s.link.Acceptors, mustAcceptor(t, 600))
	}
	return s
}

// befall lets one thing happen to the net or to an acceptor.
func (s *story) befall() {
	a := s.link.Acceptors[s.r.IntN(len(s.link.Acceptors))]
	k := s.r.IntN(s.link.Net.Late() + 1)
	switch s.r.IntN(9) {
	case 0, 1:
		for range s.r.IntN(12) {
			s.link.Net.Luck([]int{s.r.IntN(5) * s.r.IntN(2)})
		}
	case 2:
		a.Stop()
	case 3, 4:
		a.Start([]int{s.r.IntN(3), s.r.IntN(3), s.r.IntN(3)})
	case 5:
		a.Cut(s.r.IntN(6))
	case 6, 7:
		if to, b, ok := s.link.Net.Take(k); ok {
			s.link.Deliver(to, b)
		}
	case 8:
		s.link.Net.Double(k)
	}
}

// told holds what a call was told of a version against all that others were; floor is what was told ahead of its beginning.
func (s *story) told(what string, at spot, value string, floor int) {
	s.t.Helper()
	if at.version < floor {
		s.t.Errorf("%s tells the version %d of %d behind %d", what, at.version, at.key, floor)
	}
	if at.version == 0 {
		return
	}
	if was, ok := s.values[at]; ok && was != value {
		s.t.Errorf("%s tells %q of %v, where %q was told", what, value, at, was)
	}
	if s.wanted[at][value] == 0 {
		s.t.Errorf("%s tells %q of %v, which nobody wanted: %v", what, value, at, s.wanted[at])
	}
	s.values[at] = value
	s.floor[at.key] = max(s.floor[at.key], at.version)
}

func (s *story) read(key, id int, call func(key, id int) (int, string, api.Errno)) {
	floor := s.floor[key]
	version, value, e := call(key, id)
	s.counts[fmt.Sprint("read ", int(e))]++
	if e == api.OK {
		s.told("a Read", spot{key, version}, value, floor)
	} else if version != 0 || value != "" || e != api.ErrLost {
		s.t.Errorf("Read: %d, %q, %d", version, value, e)
	}
}

func (s *story) swap(key, id, version int, value string, call func(key, id, version int, value string) api.Errno) {
	floor, at := s.floor[key], spot{key, version + 1}
	if s.wanted[at] == nil {
		s.wanted[at] = map[string]int{}
	}
	s.wanted[at][value]++
	e := call(key, id, version, value)
	s.counts[fmt.Sprint("swap ", int(e))]++
	if e == api.OK {
		s.told("a Swap", at, value, floor+1)
	} else if e != api.ErrLost && e != api.ErrStale {
		s.t.Errorf("Swap: %d", e)
	}
}

// value is most often one that nobody else wants; now and then two want the same, and it may be none at all.
func (s *story) value() string {
	if s.r.IntN(5) == 0 {
		return []string{"", "same"}[s.r.IntN(2)]
	}
	return fmt.Sprint("value ", s.r.Uint32())
}

// call draws a call, of the register itself or of a slow caller. Ids are few: some callers have the same one.
func (s *story) call() {
	key, id := s.r.IntN(2), s.r.IntN(4)*5
	version, value := max(0, s.floor[key]+[]int{0, 0, 0, 0, 1, -1}[s.r.IntN(6)]), s.value()
	reads := s.r.IntN(3) == 0
	if len(s.slow) < 3 && s.r.IntN(2) == 0 {
		s.start(func(p plain) {
			if reads {
				s.read(key, id, p.read)
			} else {
				s.swap(key, id, version, value, p.swap)
			}
		})
		return
	}
	if reads {
		s.read(key, id, func(key, id int) (int, string, api.Errno) {
			n, v, e := register.Read(s.link, key, id)
			return n, string(v), e
		})
		return
	}
	s.swap(key, id, version, value, func(key, id, version int, value string) api.Errno {
		return register.Swap(s.link, key, id, version, []byte(value))
	})
}

// start lets a slow caller begin.
func (s *story) start(call func(plain)) {
	next, _ := iter.Pull(func(yield func(int) bool) {
		call(plain{s.link, func() { yield(0) }})
	})
	s.slow = append(s.slow, func() bool {
		_, more := next()
		s.counts["slow"]++
		return more
	})
}

// goOn lets one of the slow callers send some messages.
func (s *story) goOn() {
	if len(s.slow) == 0 {
		return
	}
	i := s.r.IntN(len(s.slow))
	for range 1 + s.r.IntN(2*len(s.link.Acceptors)) {
		if !s.slow[i]() {
			s.slow = append(s.slow[:i], s.slow[i+1:]...)
			return
		}
	}
}

// calm lets all acceptors answer, and all that is late come.
func (s *story) calm() {
	calm(s.link)
	for _, a := range s.link.Acceptors {
		a.Stop()
		a.Start([]int{s.r.IntN(3)})
		a.Cut(-1)
	}
	for s.link.Net.Late() > 0 {
		checkComes(s.t, s.link, s.r.IntN(s.link.Net.Late()))
	}
}

func (s *story) run() {
	for range 60 {
		for range s.r.IntN(3) {
			s.befall()
		}
		if s.r.IntN(2) == 0 {
			s.call()
		} else {
			s.goOn()
		}
	}
	for len(s.slow) > 0 {
		s.goOn()
	}
	s.calm()
	for key := range 2 {
		version, _, e := register.Read(s.link, key, 1)
		if e != api.OK || version < s.floor[key] {
			s.t.Errorf("Read(%d): %d, %d, when all is well, behind %d", key, version, e, s.floor[key])
		}
		if e := register.Swap(s.link, key, 2, version, []byte("last")); e != api.OK {
			s.t.Errorf("Swap(%d): %d, when all is well", key, e)
		}
		checkRead(s.t, s.link, key, 3, version+1, "last")
	}
}

// P905, P906, P907

// TestWhatWasToldStays plays many stories: whatever befalls them, a version has one value, no Read goes back, and of Swaps that want other values one is OK.
func TestWhatWasToldStays(t *testing.T) {
	counts := map[string]int{}
	for seed := range uint64(3000) {
		s := newStory(t, seed, counts)
		s.run()
		if t.Failed() {
			t.Fatalf("the seed is %d: %v", seed, s.values)
		}
	}
	for _, k := range []string{"read 0", "read 33", "swap 0", "swap 33", "swap 34", "slow"} {
		if counts[k] < 1000 {
			t.Errorf("%s: only %d times: %v", k, counts[k], maps.Clone(counts))
		}
	}
}
