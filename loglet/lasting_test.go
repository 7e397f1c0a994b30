package loglet_test

import (
	"fmt"
	"math/rand/v2"
	"testing"

	"gazette/api"
	"gazette/loglet"
)

func TestExamples(t *testing.T) {
	l := mustLink(t, 3, 40)
	c := of(0, 1, 2)
	l.Net.Luck([]int{0, 0, 1})
	checkAppend(t, l, c, 0, "a", api.OK)
	l.Net.Luck([]int{0, 1, 1})
	checkAppend(t, l, c, 1, "b", api.ErrLost)
	checkSeal(t, l, c, 2, api.OK)
	checkRepair(t, l, c, 0, 2, api.OK)
	checkRead(t, l, c, 1, "b", api.OK)
}

// P709

// TestLateMessagesBehindASeal: what was sent ahead of it comes where the Seal has not been, and makes no Append OK.
func TestLateMessagesBehindASeal(t *testing.T) {
	l := mustLink(t, 3, 40)
	c := of(0, 1, 2)
	l.Net.Luck([]int{late, late, late})
	checkAppend(t, l, c, 0, "a", api.ErrLost)
	l.Net.Luck([]int{comes, comes, lost})
	checkSeal(t, l, c, 0, api.OK)
	for range 3 {
		checkDeliver(t, l, 0, true)
	}
	checkSlot(t, l, 0, 0, "", api.ErrNone)
	checkSlot(t, l, 1, 0, "", api.ErrNone)
	checkSlot(t, l, 2, 0, "a", api.OK)
	checkAppend(t, l, c, 1, "b", api.ErrSeal)
	checkAppend(t, l, of(2), 1, "b", api.OK)
	checkSeal(t, l, c, 2, api.OK)
	checkAppend(t, l, of(2), 2, "c", api.ErrSeal)
}

// TestLateSeal: a Seal that nobody was told of ends a loglet where it comes.
func TestLateSeal(t *testing.T) {
	l := mustLink(t, 3, 40)
	c := of(0, 1, 2)
	l.Net.Luck([]int{late, late, late})
	checkSeal(t, l, c, 0, api.ErrLost)
	checkAppend(t, l, c, 0, "a", api.OK)
	checkDeliver(t, l, 0, true)
	checkAppend(t, l, c, 1, "b", api.OK)
	checkDeliver(t, l, 0, true)
	checkAppend(t, l, c, 2, "c", api.ErrSeal)
	checkSeal(t, l, c, 3, api.OK)
	checkRepair(t, l, c, 0, 3, api.OK)
	for pos, want := range []string{"a", "b", "c"} {
		checkRead(t, l, c, pos, want, api.OK)
	}
}

func TestASealLastsWithoutPower(t *testing.T) {
	l := mustLink(t, 3, 40)
	c := of(0, 1, 2)
	checkAppend(t, l, c, 0, "a", api.OK)
	checkSeal(t, l, c, 1, api.OK)
	for _, n := range l.Nodes {
		n.Stop()
	}
	checkAppend(t, l, c, 1, "b", api.ErrLost)
	checkSeal(t, l, c, 0, api.ErrLost)
	checkRead(t, l, c, 0, "", api.ErrLost)
	checkTrim(t, l, c, 1, api.ErrLost)
	checkRepair(t, l, c, 0, 1, api.ErrLost)
	for _, n := range l.Nodes[1:] {
		n.Start([]int{1})
	}
	checkAppend(t, l, c, 1, "b", api.ErrSeal)
	checkRead(t, l, c, 0, "a", api.OK)
	checkSeal(t, l, c, 1, api.OK)
}

// P708, P709, P710

// story is a loglet, its one writer, and all that befalls them.
type story struct {
	t      *testing.T
	r      *rand.Rand
	link   *loglet.Link
	config loglet.Config

	tried   int  // places that the writer has appended to
	told    int  // those that were answered OK
	over    bool // the writer was answered an error
	sealed  bool
	settled int // all places ahead of it were repaired behind a Seal that told it
	counts  map[string]int
}

func newStory(t *testing.T, seed uint64, nodes int) *story {
	s := &story{t: t, r: rand.New(rand.NewPCG(seed, 708)), link: mustLink(t, nodes+1, 200), counts: map[string]int{}}
	s.config = loglet.Config{ID: int(seed), Nodes: s.r.Perm(nodes + 1)[:nodes]}
	return s
}

// data is what the writer appends at a place: of some it takes more than a block.
func (s *story) data(pos int) string {
	return fmt.Sprintf("%d of %*d", pos, pos%4*100, s.config.ID)
}

// befall lets one thing happen to the net or to a node.
func (s *story) befall() {
	n := s.link.Nodes[s.r.IntN(len(s.link.Nodes))]
	k := s.r.IntN(s.link.Net.Late() + 1)
	switch s.r.IntN(8) {
	case 0, 1:
		for range s.r.IntN(6) {
			s.link.Net.Luck([]int{s.r.IntN(10) * s.r.IntN(2)})
		}
	case 2:
		n.Stop()
	case 3, 4:
		n.Start([]int{s.r.IntN(3), s.r.IntN(3), s.r.IntN(3)})
	case 5:
		n.Cut(s.r.IntN(6))
	case 6:
		s.link.Deliver(k)
	case 7:
		if s.r.IntN(2) == 0 {
			s.link.Net.Double(k)
		} else {
			s.link.Net.Take(k)
		}
	}
}

func (s *story) append() {
	if s.over {
		return
	}
	pos := s.tried
	s.tried++
	e := loglet.Append(s.link, s.config, pos, []byte(s.data(pos)))
	s.counts[fmt.Sprint("append ", int(e))]++
	if e != api.OK {
		s.over = true
		return
	}
	s.told++
	if s.sealed {
		s.t.Errorf("Append of %d is OK behind a Seal", pos)
	}
}

// seal seals, and repairs what the Seal tells.
func (s *story) seal() {
	tail, e := loglet.Seal(s.link, s.config)
	s.counts[fmt.Sprint("seal ", int(e))]++
	if e != api.OK {
		return
	}
	s.sealed = true
	if tail < s.told || tail > s.tried || tail < s.settled {
		s.t.Errorf("Seal tells %d: %d were told, %d tried, %d repaired", tail, s.told, s.tried, s.settled)
	}
	for range s.r.IntN(3) {
		s.befall()
	}
	e = loglet.Repair(s.link, s.config, 0, tail)
	s.counts[fmt.Sprint("repair ", int(e))]++
	if e == api.ErrNone {
		s.t.Errorf("Repair ahead of %d: ErrNone", tail)
	}
	if e == api.OK {
		s.settled = tail
	}
}

// read looks at a place: what it tells is what the writer appended.
func (s *story) read(pos int) api.Errno {
	b, e := loglet.Read(s.link, s.config, pos)
	if e == api.OK && string(b) != s.data(pos) || e == api.OK && pos >= s.tried {
		s.t.Errorf("Read(%d): %q", pos, b)
	}
	return e
}

// calm takes away all luck that waits.
func (s *story) calm() {
	for s.link.Net.Left() > 0 {
		s.link.Net.Send(-1, nil)
	}
}

// checkSettled lets just a quorum answer: it has all that was repaired.
func (s *story) checkSettled() {
	s.calm()
	for _, n := range s.link.Nodes {
		n.Stop()
	}
	some := s.r.Perm(len(s.config.Nodes))[:loglet.Quorum(s.config)]
	for _, i := range some {
		s.link.Nodes[s.config.Nodes[i]].Start([]int{s.r.IntN(3)})
	}
	for pos := range s.settled {
		s.counts["settled"]++
		if e := s.read(pos); e != api.OK {
			s.t.Errorf("Read(%d), repaired up to %d: %d", pos, s.settled, e)
		}
	}
}

func (s *story) run() {
	for range 60 {
		for range s.r.IntN(3) {
			s.befall()
		}
		switch s.r.IntN(24) {
		case 0:
			s.seal()
		case 1, 2, 3:
			s.read(s.r.IntN(s.tried + 2))
		case 4:
			s.checkSettled()
		default:
			s.append()
		}
	}
	s.calm()
	for s.link.Deliver(0) {
	}
	for _, n := range s.link.Nodes {
		n.Stop()
		n.Start([]int{s.r.IntN(3), s.r.IntN(3)})
	}
	s.seal()
	s.calm()
	for _, n := range s.link.Nodes {
		n.Stop()
		n.Start(nil)
	}
	if tail, e := loglet.Seal(s.link, s.config); e != api.OK || tail < s.told {
		s.t.Errorf("Seal: %d, %d, when all is well", tail, e)
	} else if e := loglet.Repair(s.link, s.config, 0, tail); e != api.OK {
		s.t.Errorf("Repair: %d, when all is well", e)
	} else {
		s.settled = tail
	}
	s.checkSettled()
	s.append()
}

// TestWhatWasToldLasts plays many stories: whatever befalls them, what was told is there, and behind a Seal nothing is.
func TestWhatWasToldLasts(t *testing.T) {
	counts := map[string]int{}
	for seed := range uint64(1500) {
		s := newStory(t, seed, 1+int(seed%6))
		s.run()
		for k, n := range s.counts {
			counts[k] += n
		}
		if t.Failed() {
			t.Fatalf("the seed is %d", seed)
		}
	}
	for _, k := range []string{"append 0", "append 30", "append 33", "seal 0", "seal 33", "repair 0", "repair 33", "settled"} {
		if counts[k] < 100 {
			t.Errorf("%s: only %d times: %v", k, counts[k], counts)
		}
	}
}
