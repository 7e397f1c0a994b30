package assign_test

import (
	"math/rand/v2"
	"slices"
	"strings"
	"sync"
	"testing"

	"gazette/api"
	"gazette/assign"
)

// P1406

func TestStickyOfWhatRangeAnswered(t *testing.T) {
	for _, n := range []int{1, 2, 3, 5, 16, 31, 32, 33, 1000} {
		for parts := range api.MaxParts + 1 {
			l := mustRange(t, many(n), parts)
			if again := mustSticky(t, l, many(n), parts); !same(l, again) {
				t.Fatalf("%d members, %d: Range: %v, Sticky of it: %v", n, parts, l, again)
			}
		}
	}
}

func TestStickyOfWhatStickyAnswered(t *testing.T) {
	r := rand.New(rand.NewPCG(14, 6))
	for range 5000 {
		members, parts := anyMembers(r, 1+r.IntN(40)), r.IntN(api.MaxParts+1)
		l := mustSticky(t, anyOld(r), members, parts)
		r.Shuffle(len(members), func(i, k int) { members[i], members[k] = members[k], members[i] })
		if again := mustSticky(t, l, members, parts); !same(l, again) {
			t.Fatalf("%q, %d: Sticky: %v, Sticky of it: %v", members, parts, l, again)
		}
	}
}

// checkStays: of old no two Shares list one partition, so that nobody ahead had what a member had.
func checkStays(t *testing.T, old, now []assign.Share, parts int) {
	t.Helper()
	for _, x := range now {
		at := slices.IndexFunc(old, func(s assign.Share) bool { return s.Member == x.Member })
		if at < 0 || len(old[at].Parts) > parts/len(now) {
			continue
		}
		for _, p := range old[at].Parts {
			if p < parts && !slices.Contains(x.Parts, p) {
				t.Fatalf("%q does not keep %d: %v, then %v", x.Member, p, old, now)
			}
		}
	}
}

func TestMembersComeAndGo(t *testing.T) {
	r := rand.New(rand.NewPCG(14, 5))
	for range 50 {
		parts := r.IntN(api.MaxParts + 1)
		var members []string
		l := mustSticky(t, nil, members, parts)
		for range 100 {
			name := anyMembers(r, 1)[0]
			if at := slices.Index(members, name); at >= 0 {
				members = slices.Delete(members, at, at+1)
			} else {
				members = append(members, name)
			}
			now := mustSticky(t, l, members, parts)
			checkFair(t, now, members, parts)
			checkStays(t, l, now, parts)
			l = now
		}
	}
}

func TestPartsComeAndGo(t *testing.T) {
	r := rand.New(rand.NewPCG(14, 7))
	for range 200 {
		members := anyMembers(r, 1+r.IntN(40))
		l := mustRange(t, members, r.IntN(api.MaxParts+1))
		for range 20 {
			parts := r.IntN(api.MaxParts + 1)
			now := mustSticky(t, l, members, parts)
			checkFair(t, now, members, parts)
			checkStays(t, l, now, parts)
			l = now
		}
	}
}

func TestOneAfterTheOther(t *testing.T) {
	var l []assign.Share
	for _, c := range []struct{ members, want string }{
		{"a", "a 0 1 2 3 4 5 6"},
		{"a b", "a 0 1 2 3, b 4 5 6"},
		{"a b c", "a 0 1 2, b 4 5, c 3 6"},
		{"a b c d", "a 0 1, b 4 5, c 3 6, d 2"},
		{"b c d", "b 1 4 5, c 3 6, d 0 2"},
		{"b d", "b 1 4 5 6, d 0 2 3"},
		{"a b d", "a 3 6, b 1 4 5, d 0 2"},
		{"a", "a 0 1 2 3 4 5 6"},
		{"", ""},
		{"c b", "b 0 1 2 6, c 3 4 5"},
	} {
		l = mustSticky(t, l, words(c.members), 7)
		want := shares(strings.FieldsFunc(c.want, func(r rune) bool { return r == ',' })...)
		if !same(l, want) {
			t.Fatalf("with %s: %v, not %s", c.members, l, c.want)
		}
	}
}

// P1401: what is handed in, and what is answered

const sentinel = -77

// withRoom has room behind its elements, in which something lies.
func withRoom[T any](l []T, behind T) []T {
	room := append(slices.Clone(l), behind, behind, behind)
	return room[:len(l)]
}

// call is one that both functions can be asked with; each time it is made it lies in other memory.
type call struct {
	old     []assign.Share
	members []string
	parts   int
}

func newCall() call {
	old := shares("c 6 2", "a 4 0 3", "b 5 1 5", "a 1", "x 0 1")
	for i := range old {
		old[i].Parts = withRoom(old[i].Parts, sentinel)
	}
	return call{withRoom(old, assign.Share{Member: "behind", Parts: []int{sentinel}}), withRoom(words("d c a b"), "behind"), 9}
}

func (c call) answers(t *testing.T) (byRange, bySticky []assign.Share) {
	t.Helper()
	return mustRange(t, c.members, c.parts), mustSticky(t, c.old, c.members, c.parts)
}

// whole has the room behind l, too.
func whole[T any](l []T) []T { return l[:cap(l)] }

func (c call) checkUnchanged(t *testing.T) {
	t.Helper()
	fresh := newCall()
	n, m := len(c.members)+3, len(c.old)+3
	if !slices.Equal(c.members[:n], fresh.members[:n]) || !same(c.old[:m], fresh.old[:m]) {
		t.Fatalf("%q, %v", c.members[:n], c.old[:m])
	}
	for i, x := range c.old {
		k := len(x.Parts) + 3
		if !slices.Equal(x.Parts[:k], fresh.old[i].Parts[:k]) {
			t.Fatalf("%q: %v", x.Member, x.Parts[:k])
		}
	}
}

// spoil overwrites all that l has, and the room behind.
func spoil(l []assign.Share) {
	for _, x := range l {
		for i := range whole(x.Parts) {
			whole(x.Parts)[i] = 1000 + i
		}
	}
	for i := range whole(l) {
		whole(l)[i] = assign.Share{Member: "spoilt", Parts: []int{1000}}
	}
}

func TestWhatIsHandedInIsNotChanged(t *testing.T) {
	c := newCall()
	a, b := c.answers(t)
	c.checkUnchanged(t)
	spoil(a)
	spoil(b)
	c.checkUnchanged(t)
	c.members = append(c.members, "a")
	if _, e := assign.Sticky(c.old, c.members, c.parts); e != api.ErrArg {
		t.Fatalf("two alike: %d", e)
	}
	if !slices.Equal(c.members, words("d c a b a")) {
		t.Fatalf("%q", c.members)
	}
}

func TestWhatIsHandedInIsNotKept(t *testing.T) {
	c := newCall()
	a, b := c.answers(t)
	wantA, wantB := like(a), like(b)
	spoil(c.old)
	for i := range whole(c.members) {
		whole(c.members)[i] = "spoilt"
	}
	if !same(a, wantA) || !same(b, wantB) {
		t.Fatalf("%v, %v", a, b)
	}
	c = newCall()
	if x, y := c.answers(t); !same(x, wantA) || !same(y, wantB) {
		t.Fatalf("%v, %v", x, y)
	}
}

func TestWhatIsAnsweredIsNewMemory(t *testing.T) {
	c := newCall()
	a, b := c.answers(t)
	wantA, wantB := like(a), like(b)
	spoil(a)
	if !same(b, wantB) {
		t.Fatalf("Sticky's answer, behind Range's: %v", b)
	}
	x, y := c.answers(t)
	spoil(b)
	if !same(x, wantA) || !same(y, wantB) {
		t.Fatalf("%v, %v", x, y)
	}
	again := mustSticky(t, y, c.members, c.parts)
	spoil(y)
	if !same(again, wantB) {
		t.Fatalf("Sticky of an answer that was changed then: %v", again)
	}
}

func TestListsOfOneAnswerAreApart(t *testing.T) {
	for parts := range api.MaxParts + 1 {
		for _, n := range []int{1, 2, 3, 7, 40} {
			for _, ask := range []func() []assign.Share{
				func() []assign.Share { return mustRange(t, many(n), parts) },
				func() []assign.Share { return mustSticky(t, nil, many(n), parts) },
				func() []assign.Share { return mustSticky(t, mustRange(t, many(n+1), parts), many(n), parts) },
			} {
				l := ask()
				want := like(l)
				for i, x := range l {
					for k := range whole(x.Parts) {
						whole(x.Parts)[k] = sentinel
					}
					l[i].Parts = nil
					want[i].Parts = nil
					if !same(l, want) {
						t.Fatalf("%d members, %d: %v, not %v", n, parts, l, want)
					}
				}
			}
		}
	}
}

// P1401: an answer hangs on nothing else

func TestTheSameWhateverTheOrder(t *testing.T) {
	r := rand.New(rand.NewPCG(14, 1))
	members := many(12)
	old := mustRange(t, members[3:], api.MaxParts)
	a, b := mustRange(t, members, 30), mustSticky(t, old, members, 30)
	for range 300 {
		r.Shuffle(len(members), func(i, k int) { members[i], members[k] = members[k], members[i] })
		r.Shuffle(len(old), func(i, k int) { old[i], old[k] = old[k], old[i] })
		for _, x := range old {
			r.Shuffle(len(x.Parts), func(i, k int) { x.Parts[i], x.Parts[k] = x.Parts[k], x.Parts[i] })
		}
		if x, y := mustRange(t, members, 30), mustSticky(t, old, members, 30); !same(a, x) || !same(b, y) {
			t.Fatalf("of %q and %v: %v, %v", members, old, x, y)
		}
	}
}

func TestTheSameWhoeverCallsBeside(t *testing.T) {
	c := newCall()
	a, b := c.answers(t)
	var all sync.WaitGroup
	for i := range 8 {
		all.Go(func() {
			for range 200 {
				x, _ := assign.Range(c.members, c.parts)
				y, _ := assign.Sticky(c.old, c.members, c.parts)
				if !same(a, x) || !same(b, y) || assign.Key("a", 5+i) != 3251651376%(5+i) {
					t.Errorf("%v, %v", x, y)
				}
				spoil(x)
				spoil(y)
			}
		})
	}
	all.Wait()
}

func TestNothingAndEmptyAreTheSame(t *testing.T) {
	for _, parts := range []int{0, 3} {
		checkSticky(t, []assign.Share{}, []string{}, parts)
		checkSticky(t, nil, nil, parts)
		for _, old := range [][]assign.Share{nil, {}, {{Member: "a"}}, {{Member: "a", Parts: []int{}}}} {
			if l := mustSticky(t, old, words("a b"), parts); !same(l, mustSticky(t, nil, words("a b"), parts)) {
				t.Errorf("Sticky(%v, a b, %d): %v", old, parts, l)
			}
		}
	}
}

func TestLongOldComesToAnEnd(t *testing.T) {
	long := make([]int, 1<<20)
	for i := range long {
		long[i] = i - 1<<19
	}
	old := []assign.Share{{Member: "b", Parts: long}}
	for range 1 << 17 {
		old = append(old, assign.Share{Member: "a", Parts: long}, assign.Share{})
	}
	for members, want := range map[string][]string{"b c": {"b 0 1 2", "c 3 4"}, "b a": {"a 0 1 2", "b 3 4"}} {
		if l, e := assign.Sticky(old, words(members), 5); !same(l, shares(want...)) || e != api.OK { // old is too long to be told
			t.Errorf("with %s: %v, %d, not %v", members, l, e, want)
		}
	}
}
