package assign_test

import (
	"hash/crc32"
	"math"
	"slices"
	"strings"
	"testing"

	"gazette/api"
	"gazette/assign"
)

func TestExamples(t *testing.T) {
	checkRange(t, words("b a"), 3, "a 0 1", "b 2")
	checkSticky(t, shares("a 0 1", "b 2"), words("b c"), 3, "b 1 2", "c 0")
	if n := assign.Key("a", 4); n != 0 {
		t.Errorf("Key(a, 4): %d", n)
	}
}

// P1402, P1403: what may not be

func TestMembersThatMayNotBe(t *testing.T) {
	for name, members := range wrongMembers() {
		t.Run(name, func(t *testing.T) {
			for _, parts := range []int{-1, 0, 1, 3, api.MaxParts, api.MaxParts + 1} {
				checkRefused(t, members, parts)
			}
		})
	}
}

func TestPartsThatMayNotBe(t *testing.T) {
	for _, parts := range wrongParts() {
		for _, members := range [][]string{nil, {}, words("a"), words("b a"), many(1000)} {
			checkRefused(t, members, parts)
		}
	}
}

func TestWithoutMembers(t *testing.T) {
	for _, members := range [][]string{nil, {}} {
		for _, parts := range []int{0, 1, 5, api.MaxParts} {
			checkRange(t, members, parts)
			checkSticky(t, nil, members, parts)
			checkSticky(t, shares("a 0 1", "b 2"), members, parts)
			checkSticky(t, []assign.Share{{Parts: []int{0}}}, members, parts)
		}
	}
}

func TestNamesAtTheEdges(t *testing.T) {
	long := strings.Repeat("n", api.MaxName)
	for _, name := range []string{"a", "\x00", "\xff", " ", long, strings.Repeat("\x80", api.MaxName), strings.Repeat("é", api.MaxName/2)} {
		for _, parts := range []int{0, 1, 2, api.MaxParts} {
			var all []int
			for p := range parts {
				all = append(all, p)
			}
			want := []assign.Share{{Member: name, Parts: all}}
			if l := mustRange(t, []string{name}, parts); !same(l, want) {
				t.Errorf("Range(%q, %d): %v", name, parts, l)
			}
			for _, old := range [][]assign.Share{nil, want, {{Member: name, Parts: []int{1}}}, {{Member: name + "n", Parts: all}}} {
				if l := mustSticky(t, old, []string{name}, parts); !same(l, want) {
					t.Errorf("Sticky(%v, %q, %d): %v", old, name, parts, l)
				}
			}
		}
	}
}

func TestNamesRiseByteByByte(t *testing.T) {
	rise := []string{
		"\x00", "\x00\x00", "\x01", "A", "B", "Z", "a", "a\x00", "a\x01", "a ", "aa", "ab", "abc", "abd", "b", "z", "~",
		"\x7f", "\x80", "\x80\x80", "\xc3", "é", "\uffff", "\U00010000", "\xfe", "\xff", "\xff\x00", "\xff\xff",
	}
	turned := slices.Clone(rise)
	slices.Reverse(turned)
	for k := range rise {
		for _, members := range [][]string{rise, turned, slices.Concat(rise[k:], rise[:k])} {
			for _, l := range [][]assign.Share{mustRange(t, members, len(rise)), mustSticky(t, nil, members, len(rise))} {
				for i, x := range l {
					if x.Member != rise[i] || !slices.Equal(x.Parts, []int{i}) {
						t.Fatalf("of %q the Share %d is %q: %v", members, i, x.Member, x.Parts)
					}
				}
			}
		}
	}
}

func TestAThousandMembers(t *testing.T) {
	members := many(1000)
	turned := slices.Clone(members)
	slices.Reverse(turned)
	for _, parts := range []int{0, 1, 31, api.MaxParts} {
		want := make([]assign.Share, 1000)
		for i, name := range members {
			want[i].Member = name
			if i < parts {
				want[i].Parts = []int{i}
			}
		}
		for _, m := range [][]string{members, turned} {
			if l := mustRange(t, m, parts); !same(l, want) {
				t.Errorf("Range of 1000 and %d: %v", parts, l)
			}
			if l := mustSticky(t, nil, m, parts); !same(l, want) {
				t.Errorf("Sticky of nothing, 1000 and %d: %v", parts, l)
			}
		}
	}
	// base is 0: who had some keeps one more, ahead of all others
	l := mustSticky(t, shares("n0999 31 5 6 7"), turned, api.MaxParts)
	checkFair(t, l, members, api.MaxParts)
	if x := l[999]; !slices.Equal(x.Parts, []int{5}) || !slices.Equal(l[5].Parts, []int{6}) || len(l[31].Parts) != 0 {
		t.Errorf("%v", l)
	}
}

// P1402

func TestRange(t *testing.T) {
	checkRange(t, words("a"), 0, "a")
	checkRange(t, words("a"), 1, "a 0")
	checkRange(t, words("a"), 4, "a 0 1 2 3")
	checkRange(t, words("c b a"), 0, "a", "b", "c")
	checkRange(t, words("c b a"), 1, "a 0", "b", "c")
	checkRange(t, words("c b a"), 2, "a 0", "b 1", "c")
	checkRange(t, words("c b a"), 3, "a 0", "b 1", "c 2")
	checkRange(t, words("c b a"), 4, "a 0 1", "b 2", "c 3")
	checkRange(t, words("b c a"), 5, "a 0 1", "b 2 3", "c 4")
	checkRange(t, words("b c a"), 6, "a 0 1", "b 2 3", "c 4 5")
	checkRange(t, words("b c a"), 7, "a 0 1 2", "b 3 4", "c 5 6")
	checkRange(t, words("ab a b"), 7, "a 0 1 2", "ab 3 4", "b 5 6")
	checkRange(t, words("a b c d e"), api.MaxParts, "a 0 1 2 3 4 5 6", "b 7 8 9 10 11 12 13", "c 14 15 16 17 18 19", "d 20 21 22 23 24 25", "e 26 27 28 29 30 31")
}

// P1403: what a member had

func TestStickyOfNothing(t *testing.T) {
	for _, old := range [][]assign.Share{nil, {}, {{}}, shares("a"), shares("x 0 1 2", "y 3"), shares("a -1 7 8 100", "b")} {
		checkSticky(t, old, words("a b c"), 7, "a 0 1 6", "b 2 3", "c 4 5")
		checkSticky(t, old, words("a b c"), 2, "a 0", "b 1", "c")
		checkSticky(t, old, words("a"), 3, "a 0 1 2")
		checkSticky(t, old, words("a"), 0, "a")
	}
}

func TestTheFirstShareOfANameCounts(t *testing.T) {
	checkSticky(t, shares("b 0 1", "b 2 3"), words("a b"), 4, "a 2 3", "b 0 1")
	checkSticky(t, shares("b 2 3", "b 0 1"), words("a b"), 4, "a 0 1", "b 2 3")
	checkSticky(t, shares("b 3", "x 0", "b 0 1 2"), words("a b"), 4, "a 0 1", "b 2 3")
	checkSticky(t, shares("b", "b 0 1"), words("a b"), 4, "a 0 1", "b 2 3")
	checkSticky(t, shares("b -1 4", "b 0 1"), words("a b"), 4, "a 0 1", "b 2 3")
	checkSticky(t, shares("b 0", "b 1", "b 2", "a 3", "a 0"), words("a b"), 4, "a 1 3", "b 0 2")
}

func TestNamesInOldThatAreNoMembers(t *testing.T) {
	for _, name := range []string{"", "A", "a\x00", "\x00a", "aa", "x", strings.Repeat("x", api.MaxName+1)} {
		old := []assign.Share{{Member: name, Parts: []int{0, 1, 2, 3}}, {Member: "b", Parts: []int{0, 1}}, {Member: name, Parts: []int{0}}}
		checkSticky(t, old, words("a b"), 4, "a 2 3", "b 0 1")
	}
}

func TestNumbersInOldThatAreNoPartitions(t *testing.T) {
	b := []int{-1, math.MinInt, 4, 5, api.MaxParts - 1, api.MaxParts, 1 << 32, math.MaxInt, 3}
	checkSticky(t, []assign.Share{{Member: "b", Parts: b}}, words("a b"), 4, "a 0 1", "b 2 3")
	checkSticky(t, []assign.Share{{Member: "b", Parts: b}}, words("a b"), 5, "a 0 1 2", "b 3 4")
	checkSticky(t, []assign.Share{{Member: "b", Parts: b}}, words("a b"), 3, "a 0 2", "b 1")
	checkSticky(t, []assign.Share{{Member: "b", Parts: b}}, words("a b"), 0, "a", "b")
	// -1 does not count from the end, and none that is too great wraps round
	checkSticky(t, shares("a -1 -2", "b 4 5"), words("a b"), 4, "a 0 1", "b 2 3")
}

func TestPartitionsThatOldListsTwice(t *testing.T) {
	checkSticky(t, shares("b 3 3 3 3"), words("a b"), 4, "a 0 1", "b 2 3")
	checkSticky(t, shares("b 0 0 0"), words("a b"), 5, "a 1 2 4", "b 0 3")
	checkSticky(t, shares("b 1 1 2 2 3"), words("a b"), 5, "a 0 4", "b 1 2 3")
	checkSticky(t, shares("b 0 1", "a 1 2"), words("a b"), 4, "a 1 2", "b 0 3")
	checkSticky(t, shares("c 0", "b 0", "a 0"), words("a b c"), 3, "a 0", "b 1", "c 2")
	// a member had it, even if it does not keep it: the one behind it did not
	checkSticky(t, shares("a 0 1 2 3", "b 3 5"), words("a b c"), 6, "a 0 1", "b 2 5", "c 3 4")
	checkSticky(t, shares("a 0 1 2 3 4", "b 4", "c 4 3"), words("a b c"), 6, "a 0 1", "b 2 3", "c 4 5")
	checkSticky(t, shares("b 0 1 2 3", "a 3"), words("a b"), 4, "a 2 3", "b 0 1")
}

func TestOldInAnyOrder(t *testing.T) {
	checkSticky(t, shares("c 6 2", "a 4 0 3", "b 5 1"), words("a b c"), 7, "a 0 3 4", "b 1 5", "c 2 6")
	checkSticky(t, shares("b 5 4 3 2 1 0"), words("a b"), 6, "a 3 4 5", "b 0 1 2")
	checkSticky(t, shares("b 31 0 30 1"), words("a b"), api.MaxParts, "a 2 3 4 5 6 7 8 9 10 11 12 13 14 15 16 17", "b 0 1 18 19 20 21 22 23 24 25 26 27 28 29 30 31")
}

// P1403: what becomes of it

func TestWhoHadFewerThanBase(t *testing.T) {
	checkSticky(t, shares("a 5", "b", "c 7 8"), words("a b c"), 9, "a 0 1 5", "b 2 3 4", "c 6 7 8")
	checkSticky(t, shares("b 0", "c 1"), words("a b c"), 6, "a 2 3", "b 0 4", "c 1 5")
}

func TestWhoHadBase(t *testing.T) {
	checkSticky(t, shares("a 2 5", "b 0 3", "c 1 4"), words("a b c"), 6, "a 2 5", "b 0 3", "c 1 4")
	checkSticky(t, shares("a 2 5", "b 0 3", "c 1 4"), words("a b c"), 8, "a 2 5 6", "b 0 3 7", "c 1 4")
	checkSticky(t, shares("c 2 5", "b 0 3"), words("a b c"), 7, "a 1 4 6", "b 0 3", "c 2 5")
}

func TestWhoHadMoreThanBase(t *testing.T) {
	checkSticky(t, shares("a 0 1 2", "b 3 4 5", "c 6 7"), words("a b c"), 8, "a 0 1 2", "b 3 4 5", "c 6 7")
	checkSticky(t, shares("a 6 7", "b 3 4 5", "c 0 1 2"), words("a b c"), 8, "a 6 7", "b 3 4 5", "c 0 1 2")
	checkSticky(t, shares("b 1 2 3 4 5 6"), words("a b"), 7, "a 0 5 6", "b 1 2 3 4")
	checkSticky(t, shares("b 1 2 3 4 5 6"), words("a b c"), 7, "a 0 4", "b 1 2 3", "c 5 6")
	checkSticky(t, shares("a 0 1 2 3", "b 4 5 6"), words("a b c"), 7, "a 0 1 2", "b 4 5", "c 3 6")
}

func TestMoreHadMoreThanTheRest(t *testing.T) {
	checkSticky(t, shares("a 0 1 2", "b 3 4 5", "c 6"), words("a b c"), 7, "a 0 1 2", "b 3 4", "c 5 6")
	checkSticky(t, shares("a 3", "b 0 4 5", "c 1 2 6"), words("a b c"), 7, "a 3 6", "b 0 4 5", "c 1 2")
	checkSticky(t, shares("a 0 4 8", "b 1 5 9", "c 2 6 10", "d 3 7"), words("a b c d e"), 11, "a 0 4 8", "b 1 5", "c 2 6", "d 3 7", "e 9 10")
}

func TestARestOfNothing(t *testing.T) {
	checkSticky(t, shares("a 0 1 2", "b 3 4 5"), words("a b c"), 6, "a 0 1", "b 3 4", "c 2 5")
	checkSticky(t, shares("c 0 1 2 3 4 5"), words("a b c"), 6, "a 2 3", "b 4 5", "c 0 1")
}

func TestABaseOfNothing(t *testing.T) {
	checkSticky(t, shares("c 0 1", "d 2 3"), words("a b c d"), 2, "a 1", "b", "c 0", "d")
	checkSticky(t, shares("c 0 1", "d 2"), words("a b c d"), 3, "a 1", "b", "c 0", "d 2")
	checkSticky(t, shares("b 1", "d 0"), words("a b c d"), 2, "a", "b 1", "c", "d 0")
	checkSticky(t, shares("a 0", "b 1", "c 2"), words("a b c d"), 1, "a 0", "b", "c", "d")
}

// P1404

func TestKey(t *testing.T) {
	table := crc32.MakeTable(crc32.Castagnoli)
	keys := []string{"", "a", "b", "key", "123456789", "\x00", "\xff\xfe", "é", strings.Repeat("k", 1000), strings.Repeat("\x00", 100000)}
	for _, key := range keys {
		sum := int(crc32.Checksum([]byte(key), table))
		for parts := 1; parts <= api.MaxParts; parts++ {
			if n := assign.Key(key, parts); n != sum%parts {
				t.Errorf("Key(%.20q, %d): %d, not %d", key, parts, n, sum%parts)
			}
		}
		for _, parts := range append(wrongParts(), 0) {
			if n := assign.Key(key, parts); n != -1 {
				t.Errorf("Key(%.20q, %d): %d", key, parts, n)
			}
		}
	}
}

func TestKeyOfNothing(t *testing.T) {
	for parts := 1; parts <= api.MaxParts; parts++ {
		if n := assign.Key("", parts); n != 0 {
			t.Errorf("Key of nothing, %d: %d", parts, n)
		}
	}
}

// P1404: the sum is of all 32 bits, and none of it counts as a sign
func TestKeyOfASumWithItsHighestBit(t *testing.T) {
	for parts, want := range map[int]int{1: 0, 2: 0, 3: 0, 5: 1, 7: 1, 10: 6, 31: 3251651376 % 31, api.MaxParts: 3251651376 % 32} {
		if n := assign.Key("a", parts); n != want {
			t.Errorf("Key(a, %d): %d, not %d", parts, n, want)
		}
	}
}
