package assign_test

import (
	"math"
	"math/rand/v2"
	"slices"
	"sort"
	"testing"

	"gazette/api"
	"gazette/assign"
)

const none = -1 // as an owner

// table has each partition's owner, by the place of its name. It works everything out of that anew, and does what the chapter says word by word.
type table struct {
	names  []string
	owner  []int
	base   int
	rest   int
	listed []int // partitions, by the place of the member that had them
}

func newTable(members []string, parts int) *table {
	x := &table{names: slices.Clone(members), owner: make([]int, parts), listed: make([]int, parts)}
	sort.Strings(x.names)
	for p := range parts {
		x.owner[p], x.listed[p] = none, none
	}
	x.base, x.rest = parts/len(members), parts%len(members)
	return x
}

// having lists the partitions of i, rising.
func having(of []int, i int) []int {
	var l []int
	for p, who := range of {
		if who == i {
			l = append(l, p)
		}
	}
	return l
}

func (x *table) give(i, n int) {
	for p := range x.owner {
		if n > 0 && x.owner[p] == none {
			x.owner[p] = i
			n--
		}
	}
}

func (x *table) shares() []assign.Share {
	var l []assign.Share
	for i, name := range x.names {
		l = append(l, assign.Share{Member: name, Parts: having(x.owner, i)})
	}
	return l
}

// P1402

func plainRange(members []string, parts int) []assign.Share {
	if len(members) == 0 {
		return nil
	}
	x := newTable(members, parts)
	for i := range x.names {
		x.give(i, x.base)
		if i < x.rest {
			x.give(i, 1)
		}
	}
	return x.shares()
}

// P1403

func (x *table) hear(old []assign.Share) {
	for i, name := range x.names {
		first := slices.IndexFunc(old, func(s assign.Share) bool { return s.Member == name })
		if first < 0 {
			continue
		}
		for _, p := range old[first].Parts {
			if p >= 0 && p < len(x.listed) && x.listed[p] == none {
				x.listed[p] = i
			}
		}
	}
}

func plainSticky(old []assign.Share, members []string, parts int) []assign.Share {
	if len(members) == 0 {
		return nil
	}
	x := newTable(members, parts)
	x.hear(old)
	for i := range x.names {
		for k, p := range having(x.listed, i) {
			if k < x.base {
				x.owner[p] = i
			}
		}
	}
	did := 0
	for i := range x.names {
		if had := having(x.listed, i); len(had) > x.base && did < x.rest {
			x.owner[had[x.base]] = i
			did++
		}
	}
	for i := range x.names {
		if n := len(having(x.owner, i)); n < x.base {
			x.give(i, x.base-n)
		}
	}
	for i := range x.names {
		if len(having(x.owner, i)) == x.base {
			x.give(i, 1)
		}
	}
	return x.shares()
}

func comparePlain(t *testing.T, old []assign.Share, members []string, parts int) {
	t.Helper()
	if l, want := mustSticky(t, old, members, parts), plainSticky(old, members, parts); !same(l, want) {
		t.Fatalf("Sticky(%v, %q, %d): %v, not %v", old, members, parts, l, want)
	}
}

func TestRangeByTheChaptersWords(t *testing.T) {
	for n := range 40 {
		members := many(n)
		slices.Reverse(members)
		for parts := range api.MaxParts + 1 {
			l := mustRange(t, members, parts)
			if want := plainRange(members, parts); !same(l, want) {
				t.Fatalf("Range of %d members and %d: %v, not %v", n, parts, l, want)
			}
			checkFair(t, l, members, parts)
		}
	}
}

// TestStickyOfAllThatIsSmall: three names may each have listed any of four partitions.
func TestStickyOfAllThatIsSmall(t *testing.T) {
	bits := func(m int) []int {
		var l []int
		for p := range 4 {
			if m>>p&1 == 1 {
				l = append(l, p)
			}
		}
		return l
	}
	for m := range 1 << 12 {
		old := []assign.Share{{Member: "c", Parts: bits(m)}, {Member: "a", Parts: bits(m >> 4)}, {Member: "b", Parts: bits(m >> 8)}}
		for _, members := range [][]string{{"a"}, {"c", "b"}, {"b", "a", "c"}, {"d", "c", "a", "aa"}} {
			for parts := range 6 {
				comparePlain(t, old, members, parts)
			}
		}
	}
}

// anyMembers is a list of n of the names that there are, in any order.
func anyMembers(r *rand.Rand, n int) []string {
	all := many(40)
	r.Shuffle(len(all), func(i, k int) { all[i], all[k] = all[k], all[i] })
	return all[:n]
}

func anyPart(r *rand.Rand) int {
	switch r.IntN(20) {
	case 0:
		return -1 - r.IntN(40)
	case 1:
		return []int{math.MinInt, math.MaxInt, api.MaxParts, 1 << 32, -1 << 32}[r.IntN(5)]
	}
	return r.IntN(api.MaxParts + 2)
}

func anyOld(r *rand.Rand) []assign.Share {
	old := make([]assign.Share, r.IntN(20))
	for i := range old {
		old[i].Member = anyMembers(r, 1)[0]
		if r.IntN(4) == 0 {
			old[i].Member = "n0007"
		}
		old[i].Parts = make([]int, r.IntN(1+r.IntN(40)))
		for k := range old[i].Parts {
			old[i].Parts[k] = anyPart(r)
		}
	}
	return old
}

func TestStickyByTheChaptersWords(t *testing.T) {
	r := rand.New(rand.NewPCG(14, 3))
	for range 20000 {
		old, members, parts := anyOld(r), anyMembers(r, r.IntN(1+r.IntN(40))), r.IntN(api.MaxParts+1)
		comparePlain(t, old, members, parts)
		checkFair(t, mustSticky(t, old, members, parts), members, parts)
	}
}
