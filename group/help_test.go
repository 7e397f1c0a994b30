package group_test

import (
	"fmt"
	"math/rand/v2"
	"reflect"
	"slices"
	"strings"
	"testing"

	"gazette/api"
	"gazette/group"
)

const (
	topEpoch  = 1<<31 - 1
	topNumber = api.MaxNumber - 1
	hundred   = 100 // the members that a group can have
)

func join(name string, now int) group.Event {
	return group.Event{Kind: group.Join, Member: name, Now: now}
}

func leave(name string, now int) group.Event {
	return group.Event{Kind: group.Leave, Member: name, Now: now}
}

func beat(name string, gen, now int) group.Event {
	return group.Event{Kind: group.Beat, Member: name, Gen: gen, Now: now}
}

func commit(name string, gen, part, offset int) group.Event {
	return group.Event{Kind: group.Commit, Member: name, Gen: gen, Part: part, Offset: offset}
}

func expire(now int) group.Event { return group.Event{Kind: group.Expire, Now: now} }

func promise(name string, gen, part, offset, producer, epoch int) group.Event {
	return group.Event{Kind: group.Promise, Member: name, Gen: gen, Part: part, Offset: offset, Producer: producer, Epoch: epoch}
}

// yes is a Mark with Yes; no is one without.
func yes(producer, epoch int) group.Event {
	return group.Event{Kind: group.Mark, Producer: producer, Epoch: epoch, Yes: true}
}

func no(producer, epoch int) group.Event {
	return group.Event{Kind: group.Mark, Producer: producer, Epoch: epoch}
}

// state is all that a group tells, with what it decides of many events: when members were heard of, and which epochs are known, can't be looked at.
type state struct {
	generation int
	members    []string
	shares     [][]int
	offsets    []int // -1: none was committed
	pending    []group.Pend
	decided    []decision
}

type decision struct {
	done bool
	e    api.Errno
}

// probes are of members, producers, epochs and times that the tests use.
func probes(gen int) []group.Event {
	list := []group.Event{join("new", 0), beat("new", gen, 0)}
	for _, name := range []string{"a", "b", "c", "d"} {
		list = append(list, join(name, 0), leave(name, 0), beat(name, gen, 0), beat(name, gen-1, 0), beat(name, gen+1, 0))
		list = append(list, commit(name, gen, 0, 0), commit(name, gen, 3, 0), commit(name, gen, api.MaxParts-1, 0))
	}
	for _, producer := range []int{0, 1, 2, 7, 9, topNumber} {
		for _, epoch := range []int{0, 1, 2, 3, 4, 5, topEpoch} {
			list = append(list, yes(producer, epoch), no(producer, epoch), promise("a", gen, 0, 0, producer, epoch))
		}
	}
	for now := range 60 {
		list = append(list, expire(now))
	}
	return list
}

func stateOf(g *group.Group) state {
	s := state{generation: g.Generation(), members: slices.Clone(g.Members())}
	s.pending = append(s.pending, g.Pending()...)
	for _, name := range append(g.Members(), "a", "b", "c", "d", "") {
		s.shares = append(s.shares, append([]int{}, g.Share(name)...))
	}
	for part := range api.MaxParts + 1 {
		n, is := g.Offset(part)
		if !is {
			n = -1 - n
		}
		s.offsets = append(s.offsets, n)
	}
	for _, x := range probes(g.Generation()) {
		done, e := g.Decide(x)
		s.decided = append(s.decided, decision{done, e})
	}
	return s
}

func checkState(t *testing.T, g *group.Group, want state) {
	t.Helper()
	if s := stateOf(g); !reflect.DeepEqual(s, want) {
		t.Errorf("the group is %v, not %v", s, want)
	}
}

func mustNew(t *testing.T, parts, session int) *group.Group {
	t.Helper()
	g, e := group.New(parts, session)
	if g == nil || e != api.OK {
		t.Fatalf("New(%d, %d): %v, %d", parts, session, g, e)
	}
	return g
}

// made is a group that took all these events.
func made(t *testing.T, parts, session int, list ...group.Event) *group.Group {
	t.Helper()
	g := mustNew(t, parts, session)
	mustTake(t, g, list...)
	return g
}

// mustTake applies events for which there is something to do.
func mustTake(t *testing.T, g *group.Group, list ...group.Event) {
	t.Helper()
	for _, x := range list {
		if done, e := g.Decide(x); done || e != api.OK {
			t.Fatalf("Decide(%s): %v, %d, not false, 0", brief(x), done, e)
		}
		if e := g.Apply(x); e != api.OK {
			t.Fatalf("Apply(%s): %d", brief(x), e)
		}
	}
}

// checkDone looks at an event for which there is nothing to do.
func checkDone(t *testing.T, g *group.Group, x group.Event) {
	t.Helper()
	was := stateOf(g)
	if done, e := g.Decide(x); !done || e != api.OK {
		t.Errorf("Decide(%s): %v, %d, not true, 0", brief(x), done, e)
	}
	if e := g.Apply(x); e != api.OK {
		t.Errorf("Apply(%s): %d", brief(x), e)
	}
	checkState(t, g, was)
}

// checkRefused looks at an event that is not taken.
func checkRefused(t *testing.T, g *group.Group, x group.Event, want api.Errno) {
	t.Helper()
	was := stateOf(g)
	if done, e := g.Decide(x); done || e != want {
		t.Errorf("Decide(%s): %v, %d, not false, %d", brief(x), done, e, want)
	}
	if e := g.Apply(x); e != want {
		t.Errorf("Apply(%s): %d, not %d", brief(x), e, want)
	}
	checkState(t, g, was)
}

// checkShares looks at the generation and all shares: want is like "a 0 1, b 2".
func checkShares(t *testing.T, g *group.Group, generation int, want string) {
	t.Helper()
	var told []string
	for _, name := range g.Members() {
		told = append(told, strings.Join(append([]string{name}, strings.Fields(strings.Trim(fmt.Sprint(g.Share(name)), "[]"))...), " "))
	}
	if got := strings.Join(told, ", "); g.Generation() != generation || got != want {
		t.Errorf("generation %d: %s, not %d: %s", g.Generation(), got, generation, want)
	}
}

// checkOffsets looks at the offsets of the first partitions; -1: none.
func checkOffsets(t *testing.T, g *group.Group, want ...int) {
	t.Helper()
	for part, n := range want {
		offset, is := g.Offset(part)
		if is != (n >= 0) || offset != max(n, 0) {
			t.Errorf("Offset(%d): %d, %v, not %d", part, offset, is, n)
		}
	}
}

func checkPending(t *testing.T, g *group.Group, want ...group.Pend) {
	t.Helper()
	if got := g.Pending(); !slices.Equal(got, want) {
		t.Errorf("Pending: %v, not %v", got, want)
	}
}

// brief tells an event without the whole of a long name.
func brief(x group.Event) string {
	if len(x.Member) > 10 {
		x.Member = fmt.Sprint(x.Member[:5], "..", len(x.Member))
	}
	return fmt.Sprintf("%+v", x)
}

// names has n of them, rising.
func names(n int) []string {
	var list []string
	for i := range n {
		list = append(list, fmt.Sprintf("m%04d", i))
	}
	return list
}

// dice are what the tests choose by: the same ones in each run.
type dice struct{ *rand.Rand }

func diceOf(a, b uint64) dice { return dice{rand.New(rand.NewPCG(a, b))} }

func pick[T any](d dice, list ...T) T { return list[d.IntN(len(list))] }

// rarely is mostly n, and now and then another number.
func rarely(d dice, n int, others ...int) int {
	if d.IntN(25) > 0 {
		return n
	}
	return pick(d, others...)
}
