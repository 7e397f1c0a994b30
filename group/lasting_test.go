package group_test

import (
	"slices"
	"sync"
	"testing"

	"gazette/api"
	"gazette/group"
)

// story is what a caller knows who applies events one behind the other.
type story struct {
	g    *group.Group
	p    *plain // chooses what comes next
	sent []group.Event
	took []group.Event
}

func newStory(t *testing.T, parts, session int) *story {
	return &story{g: mustNew(t, parts, session), p: &plain{parts: parts, session: session}}
}

// send applies x; what was taken it writes down.
func (s *story) send(t *testing.T, x group.Event) (counted bool) {
	t.Helper()
	done, e := s.g.Decide(x)
	if again := s.g.Apply(x); again != e {
		t.Fatalf("Apply(%s): %d, and Decide: %d", brief(x), again, e)
	}
	s.p.Apply(x)
	s.sent = append(s.sent, x)
	counted = e == api.OK && !done
	if counted {
		s.took = append(s.took, x)
	}
	return counted
}

// P1507

func (s *story) checkOwners(t *testing.T) {
	t.Helper()
	owners := map[int]int{}
	for _, name := range s.g.Members() {
		l := s.g.Share(name)
		if !slices.IsSorted(l) {
			t.Fatalf("Share(%q): %v", name, l)
		}
		for _, part := range l {
			owners[part]++
		}
	}
	want := s.p.parts
	if len(s.g.Members()) == 0 {
		want = 0
	}
	for part := range want {
		if owners[part] != 1 {
			t.Fatalf("generation %d: the partition %d has %d owners", s.g.Generation(), part, owners[part])
		}
	}
	if len(owners) != want {
		t.Fatalf("generation %d: of %d partitions there are %v", s.g.Generation(), want, owners)
	}
}

// look is what may change by an event.
type look struct {
	generation int
	members    []string
	offsets    []int
	pending    []group.Pend
}

func (s *story) look() look {
	return look{s.g.Generation(), s.g.Members(), stateOf(s.g).offsets, s.g.Pending()}
}

// checkWhatChanged looks at what an event may do, by its Kind.
func checkWhatChanged(t *testing.T, x group.Event, counted bool, was, now look) {
	t.Helper()
	changed := !slices.Equal(was.members, now.members)
	if rose := now.generation - was.generation; rose != 0 && rose != 1 || changed != (rose == 1) {
		t.Fatalf("%s: generation %d of %q behind %d of %q", brief(x), now.generation, now.members, was.generation, was.members)
	}
	if changed && (!counted || x.Kind != group.Join && x.Kind != group.Leave && x.Kind != group.Expire) {
		t.Fatalf("%s: %q behind %q", brief(x), now.members, was.members)
	}
	// P1508, P1509
	if !slices.Equal(was.offsets, now.offsets) && (!counted || x.Kind != group.Commit && !(x.Kind == group.Mark && x.Yes)) {
		t.Fatalf("%s changed the offsets", brief(x))
	}
	if !slices.Equal(was.pending, now.pending) && (!counted || x.Kind != group.Promise && x.Kind != group.Mark) {
		t.Fatalf("%s: pending are %v behind %v", brief(x), now.pending, was.pending)
	}
	member := slices.Contains(was.members, x.Member) && x.Gen == was.generation
	if counted && (x.Kind == group.Commit || x.Kind == group.Promise) && !member {
		t.Fatalf("%s counted in the generation %d of %q", brief(x), was.generation, was.members)
	}
}

func TestStories(t *testing.T) {
	for seed := range uint64(40) {
		d := diceOf(seed, 7)
		s := newStory(t, 1+d.IntN(api.MaxParts), pick(d, 3, 10, 20))
		crew := names(1 + d.IntN(6))
		for range 100 {
			was, x := s.look(), d.event(s.p, crew)
			counted := s.send(t, x)
			checkWhatChanged(t, x, counted, was, s.look())
			s.checkOwners(t)
		}
		s.checkReplayed(t)
	}
}

// P1510

// bytesOf tells an event as bytes, and reads it again.
func bytesOf(t *testing.T, x group.Event) group.Event {
	t.Helper()
	got, e := group.GetEvent(mustPut(t, x))
	if e != api.OK {
		t.Fatalf("GetEvent of %s: %d", brief(x), e)
	}
	return got
}

func (s *story) checkReplayed(t *testing.T) {
	t.Helper()
	want := stateOf(s.g)
	g, h := mustNew(t, s.p.parts, s.p.session), mustNew(t, s.p.parts, s.p.session)
	for _, x := range s.took {
		mustTake(t, g, bytesOf(t, x))
	}
	for _, x := range s.sent { // what was refused, or done, changes nothing
		h.Apply(x)
	}
	checkState(t, g, want)
	checkState(t, h, want)
}

// TestReplayedUpToAnyEvent: a group that goes on from there is the same as one that never stopped, and answers the same.
func TestReplayedUpToAnyEvent(t *testing.T) {
	d := diceOf(15, 11)
	s := newStory(t, 5, 10)
	for range 150 {
		s.send(t, d.event(s.p, names(4)))
	}
	want := stateOf(s.g)
	if len(s.took) < 70 {
		t.Fatalf("only %d counted", len(s.took))
	}
	for n := range s.took {
		g := mustNew(t, 5, 10)
		for _, x := range s.took[:n] {
			mustTake(t, g, bytesOf(t, x))
		}
		mustTake(t, g, s.took[n:]...)
		checkState(t, g, want)
	}
}

// TestReplayedEachTimeTheSame: nothing hangs on the order in which a map is gone through.
func TestReplayedEachTimeTheSame(t *testing.T) {
	var list []group.Event
	for i, name := range names(hundred) {
		list = append(list, join(name, i%7), promise(name, i+1, i%api.MaxParts, i, i%9, 0))
	}
	list = append(list, expire(12), expire(14), yes(1, 0), no(2, 0), yes(3, 1), leave("m0006", 0))
	want := stateOf(made(t, api.MaxParts, 10, list...))
	for range 20 {
		checkState(t, made(t, api.MaxParts, 10, list...), want)
	}
	var all sync.WaitGroup
	for range 4 {
		all.Go(func() {
			g, _ := group.New(api.MaxParts, 10)
			for _, x := range list {
				g.Apply(x)
			}
			checkState(t, g, want)
		})
	}
	all.Wait()
}

// P1501: what is handed in, and what is answered

func TestTheBytesOfAnEventAreNotKept(t *testing.T) {
	g := mustNew(t, 3, 10)
	for _, x := range []group.Event{join("abc", 0), commit("abc", 1, 0, 5), promise("abc", 1, 1, 6, 7, 8)} {
		b := mustPut(t, x)
		got, _ := group.GetEvent(b)
		mustTake(t, g, got)
		for i := range b {
			b[i] = 'x'
		}
	}
	checkShares(t, g, 1, "abc 0 1 2")
	checkOffsets(t, g, 5, -1)
	checkPending(t, g, group.Pend{7, 1, 6})
	mustTake(t, g, beat("abc", 1, 0))
}

// spoil overwrites all that l has, and the room behind.
func spoil[T any](l []T, with T) {
	for i := range l[:cap(l)] {
		l[:cap(l)][i] = with
	}
}

func TestWhatIsAnsweredIsNewMemory(t *testing.T) {
	g := made(t, 7, 10, join("a", 0), join("b", 0), join("c", 0))
	mustTake(t, g, promise("a", 3, 0, 1, 1, 0), promise("a", 3, 1, 2, 2, 0), promise("a", 3, 2, 3, 1, 0))
	mustTake(t, g, no(2, 0)) // leaves room behind what is pending
	want := stateOf(g)
	members, share, pending := g.Members(), g.Share("a"), g.Pending()
	spoil(g.Members(), "spoilt")
	spoil(g.Share("a"), 77)
	spoil(g.Share("c"), 77)
	spoil(g.Pending(), group.Pend{77, 77, 77})
	checkState(t, g, want)
	if !slices.Equal(members, g.Members()) || !slices.Equal(share, g.Share("a")) || !slices.Equal(pending, g.Pending()) {
		t.Errorf("answers share memory: %q, %v, %v", members, share, pending)
	}
	// what is dealt out next hangs on the shares so far
	mustTake(t, g, join("d", 0))
	checkShares(t, g, 4, "a 0 1, b 4 5, c 3 6, d 2")
	mustTake(t, g, yes(1, 0))
	checkOffsets(t, g, 1, -1, 3)
}

func TestWhatIsAnsweredDoesNotChangeLater(t *testing.T) {
	g := made(t, 7, 10, join("b", 0), join("c", 0), promise("b", 2, 0, 1, 1, 0), promise("b", 2, 1, 2, 2, 0), promise("b", 2, 2, 3, 1, 0))
	members, share, pending := g.Members(), g.Share("b"), g.Pending()
	list, parts, waits := slices.Clone(members), slices.Clone(share), slices.Clone(pending)
	mustTake(t, g, join("a", 0), promise("a", 3, 3, 4, 3, 0), yes(1, 0), leave("b", 0), yes(2, 0), join("b", 0))
	if !slices.Equal(members, list) || !slices.Equal(share, parts) || !slices.Equal(pending, waits) {
		t.Errorf("%q, %v, %v, not %q, %v, %v", members, share, pending, list, parts, waits)
	}
}
