package broker_test

import (
	"testing"

	"gazette/api"
	"gazette/group"
)

// P1707

func TestGroup(t *testing.T) {
	l, a, b := three(t)
	checkGroup(t, a, 0, join("b", 0), api.OK, 1, 0, 1)
	checkGroup(t, a, 0, join("a", 1), api.OK, 2, 1)
	checkGroup(t, a, 0, join("b", 2), api.OK, 2, 0)
	checkGroup(t, a, 0, commit("b", 1, 0, 5), api.ErrGroup, 0)
	checkGroup(t, a, 0, commit("b", 2, 0, 5), api.OK, 2, 0)
	checkGroup(t, a, 0, commit("b", 2, 2, 5), api.ErrArg, 0)
	checkHolds(t, a, 200)
	checkGroup(t, b, 0, commit("a", 2, 0, 6), api.OK, 2, 1)
	checkGroup(t, b, 0, group.Event{Kind: group.Beat, Member: "a", Gen: 2, Now: 9}, api.OK, 2, 1)
	checkGroup(t, b, 0, silent(11), api.OK, 2) // done
	checkGroup(t, b, 0, silent(12), api.OK, 3)
	checkGroup(t, b, 0, leave("b", 0), api.ErrGroup, 0)
	checkGroup(t, b, 0, leave("a", 0), api.OK, 4)
	checkGroup(t, b, 0, join("c", 0), api.OK, 5, 0, 1)
	checkOffset(t, b, 0, 0, 6, true, api.OK)
	checkEntries(t, l, 200, groupBytes(t, join("b", 0)), groupBytes(t, join("a", 1)), groupBytes(t, join("b", 2)), groupBytes(t, commit("b", 2, 0, 5)),
		groupBytes(t, commit("a", 2, 0, 6)), groupBytes(t, group.Event{Kind: group.Beat, Member: "a", Gen: 2, Now: 9}), groupBytes(t, silent(12)), groupBytes(t, leave("a", 0)), groupBytes(t, join("c", 0)))
}

func TestGroupsThatThereAre(t *testing.T) {
	l, a, _ := three(t)
	for _, g := range []int{-1 << 63, -200, -1, 100, 101, 200, 1 << 62} {
		checkSilent(t, l, func() {
			checkGroup(t, a, g, join("m", 0), api.ErrArg, 0)
			checkOffset(t, a, g, 0, 0, false, api.ErrArg)
		})
	}
	checkHolds(t, a)
	for i, g := range []int{0, 1, 99} {
		checkGroup(t, a, g, join("m", 0), api.OK, 1, 0, 1)
		checkGroup(t, a, g, commit("m", 1, 0, i), api.OK, 1, 0, 1)
	}
	checkHolds(t, a, 200, 201, 299)
	for i, g := range []int{0, 1, 99} {
		checkOffset(t, a, g, 0, i, true, api.OK)
	}
}

func TestGroupEventsThatMayNotBe(t *testing.T) {
	l, a, _ := three(t)
	checkGroup(t, a, 0, join("m", 0), api.OK, 1, 0, 1)
	mustOpen(t, l, 200)
	for _, x := range []group.Event{mark(0, 0, true), mark(-1, 0, false), {Kind: group.Mark, Member: "m"}} {
		checkSilent(t, l, func() { checkGroup(t, a, 0, x, api.ErrArg, 0) })
	}
	checkHolds(t, a, 200)
	checkGroup(t, a, 0, group.Event{}, api.ErrOwner, 0) // what may not be is no Mark: it is written
	for _, x := range []group.Event{{}, {Kind: 8}, {Kind: -1}, join("", 0), join("m", -1), {Kind: group.Join, Member: "m", Part: 1}, promise("m", 1, 32, 0, 0, 0)} {
		checkGroup(t, a, 0, x, api.ErrArg, 0)
		checkHolds(t, a, 200)
	}
	checkGroup(t, a, 0, promise("m", 1, 0, 3, 4, 5), api.OK, 1, 0, 1)
	checkGroup(t, a, 0, promise("m", 1, 0, 3, 4, 4), api.ErrFence, 0)
}

func TestOffset(t *testing.T) {
	_, a, b := three(t)
	for _, part := range []int{-1 << 63, -1, 0, 1, 2, 31, 32, 1 << 62} {
		checkOffset(t, a, 0, part, 0, false, api.OK)
	}
	checkHolds(t, a, 200)
	checkGroup(t, b, 0, join("m", 0), api.OK, 1, 0, 1)
	checkGroup(t, b, 0, commit("m", 1, 0, 0), api.OK, 1, 0, 1)
	checkOffset(t, b, 0, 0, 0, true, api.OK)
	checkOffset(t, b, 0, 1, 0, false, api.OK)
	checkGroup(t, b, 0, commit("m", 1, 0, 1<<48-1), api.OK, 1, 0, 1)
	checkOffset(t, a, 0, 0, 0, false, api.ErrOwner)
	checkOffset(t, a, 0, 0, 1<<48-1, true, api.OK)
	checkOffset(t, a, 1, 0, 0, false, api.OK)
}
