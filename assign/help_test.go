package assign_test

import (
	"fmt"
	"math"
	"slices"
	"strconv"
	"strings"
	"testing"

	"gazette/api"
	"gazette/assign"
)

// wrongParts are those that no members can share.
func wrongParts() []int {
	return []int{-1, -2, math.MinInt, api.MaxParts + 1, api.MaxParts + 2, 1 << 32, 1<<32 + 1, math.MaxInt}
}

// wrongMembers has a list for each thing that may not be.
func wrongMembers() map[string][]string {
	long := strings.Repeat("n", api.MaxName+1)
	twice := many(1000)
	twice[999] = twice[0]
	unnamed := many(1000)
	unnamed[500] = ""
	return map[string][]string{
		"an empty name":               {""},
		"an empty name, first":        {"", "a"},
		"an empty name, last":         {"a", ""},
		"two empty names":             {"", ""},
		"a name that is too long":     {long},
		"such a name, first":          {long, "a"},
		"such a name, in the midst":   {"a", long, "z"},
		"such a name, last":           {"a", long},
		"a name of 100000 bytes":      {strings.Repeat("n", 100000)},
		"65 bytes in 33 runes":        {strings.Repeat("é", 32) + "n"},
		"two alike":                   {"a", "a"},
		"two alike, apart":            {"b", "a", "b"},
		"two alike of three, first":   {"a", "a", "b"},
		"two alike of three, last":    {"a", "b", "b"},
		"three alike":                 {"a", "a", "a"},
		"two long ones alike":         {long[1:], "a", long[1:]},
		"two of bytes above 127":      {"\xff", "a", "\xff"},
		"1001 names":                  many(1001),
		"2000 names":                  many(2000),
		"1001 names, all alike":       slices.Repeat([]string{"a"}, 1001),
		"1000 names, two alike":       twice,
		"1000 names, one of them not": unnamed,
	}
}

// many is n names that rise.
func many(n int) []string {
	l := make([]string, n)
	for i := range l {
		l[i] = fmt.Sprintf("n%04d", i)
	}
	return l
}

// words splits a text, so that lists of names are short to write.
func words(s string) []string { return strings.Fields(s) }

// shares reads texts like "a 0 1": a member and its partitions.
func shares(l ...string) []assign.Share {
	var out []assign.Share
	for _, s := range l {
		w := strings.Fields(s)
		x := assign.Share{Member: w[0]}
		for _, p := range w[1:] {
			n, err := strconv.Atoi(p)
			if err != nil {
				panic(err)
			}
			x.Parts = append(x.Parts, n)
		}
		out = append(out, x)
	}
	return out
}

func same(a, b []assign.Share) bool {
	return slices.EqualFunc(a, b, func(x, y assign.Share) bool {
		return x.Member == y.Member && slices.Equal(x.Parts, y.Parts)
	})
}

// like is a copy that shares nothing with l.
func like(l []assign.Share) []assign.Share {
	l = slices.Clone(l)
	for i, x := range l {
		l[i].Parts = slices.Clone(x.Parts)
	}
	return l
}

func mustRange(t *testing.T, members []string, parts int) []assign.Share {
	t.Helper()
	l, e := assign.Range(members, parts)
	if e != api.OK {
		t.Fatalf("Range(%q, %d): %v, %d", members, parts, l, e)
	}
	return l
}

func mustSticky(t *testing.T, old []assign.Share, members []string, parts int) []assign.Share {
	t.Helper()
	l, e := assign.Sticky(old, members, parts)
	if e != api.OK {
		t.Fatalf("Sticky(%v, %q, %d): %v, %d", old, members, parts, l, e)
	}
	return l
}

func checkRange(t *testing.T, members []string, parts int, want ...string) {
	t.Helper()
	if l := mustRange(t, members, parts); !same(l, shares(want...)) {
		t.Errorf("Range(%q, %d): %v, not %v", members, parts, l, want)
	}
}

func checkSticky(t *testing.T, old []assign.Share, members []string, parts int, want ...string) {
	t.Helper()
	if l := mustSticky(t, old, members, parts); !same(l, shares(want...)) {
		t.Errorf("Sticky(%v, %q, %d): %v, not %v", old, members, parts, l, want)
	}
}

// checkRefused asks both calls; what old is makes no difference.
func checkRefused(t *testing.T, members []string, parts int) {
	t.Helper()
	if l, e := assign.Range(members, parts); len(l) != 0 || e != api.ErrArg {
		t.Errorf("Range(%.80q, %d): %v, %d", members, parts, l, e)
	}
	for _, old := range [][]assign.Share{nil, {}, shares("a 0 1", "b 2"), {{}, {}}} {
		if l, e := assign.Sticky(old, members, parts); len(l) != 0 || e != api.ErrArg {
			t.Errorf("Sticky(%v, %.80q, %d): %v, %d", old, members, parts, l, e)
		}
	}
}

// checkFair: P1405.
func checkFair(t *testing.T, l []assign.Share, members []string, parts int) {
	t.Helper()
	if len(l) != len(members) {
		t.Fatalf("%d Shares of %d members", len(l), len(members))
	}
	least, most, owners := parts, 0, map[int]int{}
	for i, x := range l {
		if i > 0 && l[i-1].Member >= x.Member || !slices.Contains(members, x.Member) {
			t.Fatalf("%q behind other names: %v", x.Member, l)
		}
		for k, p := range x.Parts {
			if k > 0 && x.Parts[k-1] >= p || p < 0 || p >= parts {
				t.Fatalf("%q has %v of %d", x.Member, x.Parts, parts)
			}
			owners[p]++
		}
		least, most = min(least, len(x.Parts)), max(most, len(x.Parts))
	}
	for p := range parts {
		if len(l) > 0 && owners[p] != 1 {
			t.Fatalf("%d has %d owners: %v", p, owners[p], l)
		}
	}
	if most > least+1 {
		t.Fatalf("one has %d, another one %d: %v", least, most, l)
	}
}
