package chain_test

import (
	"math"
	"slices"
	"testing"

	"gazette/api"
	"gazette/chain"
	"gazette/loglet"
)

// P1002

func TestCheckLetsPassWhatMayBe(t *testing.T) {
	for _, c := range good() {
		checkCheck(t, c, 3, api.OK)
	}
}

func TestCheckOneWrongThing(t *testing.T) {
	for name, c := range bad() {
		if e := chain.Check(c, 3); e != api.ErrArg {
			t.Errorf("%s: Check: %d", name, e)
		}
	}
}

func TestCheckGoesByTheNodesThatThereAre(t *testing.T) {
	for _, nodes := range []int{math.MinInt, -1, 0, 1, 2} {
		checkCheck(t, laid(0, 0), nodes, api.ErrArg)
		checkCheck(t, chain.Chain{Owner: 2}, nodes, api.OK)
	}
	for _, nodes := range []int{3, 256, 257, math.MaxInt} {
		checkCheck(t, laid(0, 0), nodes, api.OK)
		checkCheck(t, chain.Chain{Owner: 2}, nodes, api.OK)
		checkCheck(t, with(of(1, nodes-1)), nodes, api.OK)
		checkCheck(t, with(of(1, nodes)), nodes, api.ErrArg)
	}
	checkCheck(t, with(of(1, spaced(9, 1)...)), 9, api.OK)
	checkCheck(t, with(of(1, spaced(10, 1)...)), 10, api.ErrArg)
}

func TestCheckOfAWrongConfigAtEachPlace(t *testing.T) {
	for i := range api.MaxChain {
		c := laid(0, spaced(api.MaxChain, 2)...)
		c.Parts[i].Config.Nodes = nil
		checkCheck(t, c, 3, api.ErrArg)
	}
}

func TestCheckOfOneIDAtEachTwoPlaces(t *testing.T) {
	for i := range api.MaxChain {
		for j := range i {
			c := laid(0, spaced(api.MaxChain, 2)...)
			c.Parts[i].Config.ID = c.Parts[j].Config.ID
			checkCheck(t, c, 3, api.ErrArg)
		}
	}
}

func TestTheTrimLiesInTheFirstPart(t *testing.T) {
	for trim := -1; trim <= 20+full; trim++ {
		want := map[bool]api.Errno{true: api.OK, false: api.ErrArg}
		checkCheck(t, laid(trim, 5), 3, want[trim >= 5 && trim <= 5+full])
		checkCheck(t, laid(trim, 5, 9), 3, want[trim >= 5 && trim < 9])
		checkCheck(t, laid(trim, 5, 9, 9, 12), 3, want[trim >= 5 && trim < 9])
	}
}

func TestChecksErrorIsTheFirstOne(t *testing.T) {
	for name, c := range bad() {
		for _, nodes := range []int{3, 257} {
			if chain.Check(c, nodes) == api.OK {
				continue // with more nodes it may be
			}
			if b, e := chain.Encode(c, nodes); len(b) != 0 || e != api.ErrArg {
				t.Errorf("%s: Encode: %v, %d", name, b, e)
			}
			for _, at := range []int{-1, 0, 7, 9, math.MaxInt, last(c)} {
				if d, e := chain.Extend(c, nodes, 1, at, three(100)); !same(d, chain.Chain{}) || e != api.ErrArg {
					t.Errorf("%s: Extend: %v, %d", name, d, e)
				}
				if d, e := chain.Cut(c, nodes, at); !same(d, chain.Chain{}) || e != api.ErrArg {
					t.Errorf("%s: Cut: %v, %d", name, d, e)
				}
			}
		}
	}
}

func last(c chain.Chain) int {
	if len(c.Parts) == 0 {
		return 0
	}
	return c.Parts[len(c.Parts)-1].First
}

// P1003

func TestEncodeByteByByte(t *testing.T) {
	checkEncode(t, chain.Chain{}, 3, make([]byte, 8), api.OK)
	checkEncode(t, chain.Chain{Owner: 15}, -1, []byte{15, 0, 0, 0, 0, 0, 0, 0}, api.OK)
	checkEncode(t, laid(0, 0), 3, []byte{
		1, 0, 0, 0, 0, 0, 0, 1,
		0, 0, 0, 0, 0, 0, 1, 0, 0, 0, 0, 0, 3, 0, 1, 2,
	}, api.OK)
	c := chain.Chain{Owner: 9, Trim: 0x060504030201, Parts: []chain.Part{
		part(0x060504030200, of(0xF6F5F4F3F2F1, 255, 0, 7)),
		part(0x060504030A00, of(0x161514131211, 128)),
	}}
	checkEncode(t, c, 256, []byte{
		9, 1, 2, 3, 4, 5, 6, 2,
		0, 2, 3, 4, 5, 6, 0xF1, 0xF2, 0xF3, 0xF4, 0xF5, 0xF6, 3, 255, 0, 7,
		0, 10, 3, 4, 5, 6, 0x11, 0x12, 0x13, 0x14, 0x15, 0x16, 1, 128,
	}, api.OK)
}

func TestEncodeOfTheGreatestChain(t *testing.T) {
	c := laid(0, spaced(api.MaxChain, full)...)
	for i := range c.Parts {
		c.Parts[i].Config.Nodes = spaced(9, 1)
	}
	b := mustEncode(t, c, 9)
	if len(b) != 8+64*22 {
		t.Errorf("Encode: %d bytes", len(b))
	}
	checkDecode(t, b, 9, c, api.OK)
}

func TestTooManyNodesForAByte(t *testing.T) {
	b := mustEncode(t, laid(0, 0), 256)
	for _, nodes := range []int{257, 1000, math.MaxInt} {
		checkEncode(t, laid(0, 0), nodes, nil, api.ErrSize)
		checkEncode(t, chain.Chain{}, nodes, nil, api.ErrSize)
		checkNoChain(t, b, nodes, api.ErrSize)
		checkNoChain(t, b[1:], nodes, api.ErrSize)
		checkNoChain(t, nil, nodes, api.ErrSize)
		checkEncode(t, with(of(1, 256)), nodes, nil, api.ErrSize)
		checkEncode(t, owned(16), nodes, nil, api.ErrArg)
	}
	checkDecode(t, b, 256, laid(0, 0), api.OK)
	checkEncode(t, with(of(1, 256)), 256, nil, api.ErrArg)
}

func TestDecodeGoesByTheNodesThatThereAre(t *testing.T) {
	b := mustEncode(t, laid(0, 0), 3)
	for _, nodes := range []int{math.MinInt, -1, 0, 1, 2} {
		checkNoChain(t, b, nodes, api.ErrForm)
		checkDecode(t, []byte{7, 0, 0, 0, 0, 0, 0, 0}, nodes, chain.Chain{Owner: 7}, api.OK)
	}
	checkDecode(t, b, 3, laid(0, 0), api.OK)
	checkDecode(t, mustEncode(t, with(of(1, 255)), 256), 256, with(of(1, 255)), api.OK)
	checkNoChain(t, mustEncode(t, with(of(1, 255)), 256), 255, api.ErrForm)
}

func TestDecodeOfBytesThatEndTooEarly(t *testing.T) {
	for _, c := range good() {
		b := mustEncode(t, c, 3)
		for n := range len(b) {
			if d, e := chain.Decode(b[:n], 3); !same(d, chain.Chain{}) || e != api.ErrForm {
				t.Errorf("Decode of %d of %d bytes: %v, %d", n, len(b), d, e)
			}
		}
	}
	checkNoChain(t, nil, 3, api.ErrForm)
	checkNoChain(t, []byte{}, 3, api.ErrForm)
}

func TestDecodeOfBytesBehind(t *testing.T) {
	for _, c := range good() {
		b := mustEncode(t, c, 3)
		checkNoChain(t, slices.Concat(b, []byte{0}), 3, api.ErrForm)
		checkNoChain(t, slices.Concat(b, b), 3, api.ErrForm)
		checkNoChain(t, slices.Concat(b, make([]byte, 1<<20)), 3, api.ErrForm)
	}
}

// plainBytes tells any chain whose numbers have room.
func plainBytes(c chain.Chain) (b []byte, ok bool) {
	ok = true
	put := func(n, size int) {
		ok = ok && n >= 0 && n < 1<<(8*size)
		for i := range size {
			b = append(b, byte(n>>(8*i)))
		}
	}
	put(c.Owner, 1)
	put(c.Trim, 6)
	put(len(c.Parts), 1)
	for _, p := range c.Parts {
		put(p.First, 6)
		put(p.Config.ID, 6)
		put(len(p.Config.Nodes), 1)
		for _, n := range p.Config.Nodes {
			put(n, 1)
		}
	}
	return b, ok
}

func TestDecodeOfAChainThatMayNotBe(t *testing.T) {
	some := 0
	for name, c := range bad() {
		b, ok := plainBytes(c)
		if !ok {
			continue
		}
		some++
		if d, e := chain.Decode(b, 3); !same(d, chain.Chain{}) || e != api.ErrForm {
			t.Errorf("%s: Decode: %v, %d", name, d, e)
		}
	}
	if some < 20 {
		t.Errorf("%d chains only", some)
	}
}

func TestDecodeOfCountsThatAreTooGreat(t *testing.T) {
	b := slices.Concat([]byte{1, 0, 0, 0, 0, 0, 0, 255}, make([]byte, 255*(13+255)))
	checkNoChain(t, b, 3, api.ErrForm)
	b, _ = plainBytes(with(of(1, spaced(255, 1)...)))
	checkNoChain(t, b, 256, api.ErrForm)
}

func TestDecodeOfEachByteChanged(t *testing.T) {
	for _, c := range good() {
		b := mustEncode(t, c, 3)
		if len(b) > 200 {
			continue
		}
		for i := range b {
			for x := range 256 {
				changed := slices.Clone(b)
				changed[i] = byte(x)
				checkReading(t, changed)
			}
		}
	}
}

// checkReading is of any bytes: either they are a chain's, to the last one, or none's.
func checkReading(t *testing.T, b []byte) {
	t.Helper()
	c, e := chain.Decode(b, 3)
	if e == api.OK {
		checkCheck(t, c, 3, api.OK)
		checkEncode(t, c, 3, b, api.OK)
		return
	}
	if e != api.ErrForm || !same(c, chain.Chain{}) {
		t.Errorf("Decode(%v): %v, %d", b, c, e)
	}
}

// P1004

func TestFindTheChaptersExample(t *testing.T) {
	c := mustExtend(t, chain.Chain{}, 3, 1, 0, three(5))
	d := mustExtend(t, c, 3, 1, 7, three(6))
	checkFind(t, d, 6, 0, 6)
	checkFind(t, d, 9, 1, 2)
	checkFind(t, d, 7, 1, 0)
	checkFind(t, c, 9, 0, 9)
}

func TestFindAtEachEdge(t *testing.T) {
	c := laid(6, 5, 9, 12)
	for _, addr := range []int{math.MinInt, -1, 0, 4, 5, 12 + full, 13 + full, math.MaxInt} {
		checkNotFound(t, c, addr)
	}
	checkFind(t, c, 6, 0, 1)
	checkFind(t, c, 8, 0, 3)
	checkFind(t, c, 9, 1, 0)
	checkFind(t, c, 11, 1, 2)
	checkFind(t, c, 12, 2, 0)
	checkFind(t, c, 11+full, 2, full-1)
	checkFind(t, laid(0, 0), 0, 0, 0)
	checkFind(t, laid(full-1, 0), full-1, 0, full-1)
	checkNotFound(t, laid(full, 0), full)
	checkNotFound(t, laid(full, 0), full-1)
	checkFind(t, laid(top, top), api.MaxNumber, 0, 1)
}

func TestFindWithoutParts(t *testing.T) {
	for _, addr := range []int{math.MinInt, -1, 0, 1, math.MaxInt} {
		checkNotFound(t, chain.Chain{}, addr)
		checkNotFound(t, chain.Chain{Trim: -5, Parts: []chain.Part{}}, addr)
	}
}

func TestFindTakesTheLastOfEqualOnes(t *testing.T) {
	c := laid(0, 0, 7, 7, 7, 9)
	checkFind(t, c, 6, 0, 6)
	checkFind(t, c, 7, 3, 0)
	checkFind(t, c, 8, 3, 1)
	checkFind(t, c, 9, 4, 0)
}

func TestFindInTheGreatestChain(t *testing.T) {
	c := laid(3, spaced(api.MaxChain, full)...)
	for i := range api.MaxChain {
		checkFind(t, c, i*full+3, i, 3)
		checkFind(t, c, i*full+full-1, i, full-1)
		if i > 0 {
			checkFind(t, c, i*full, i, 0)
		}
	}
	checkNotFound(t, c, api.MaxChain*full)
}

// Nobody asks Find for an error, so it goes by its words whatever the chain is.
func TestFindInAChainThatMayNotBe(t *testing.T) {
	checkFind(t, laid(-5, -3, 8), 0, 0, 3)
	checkFind(t, laid(math.MinInt, math.MinInt, -1), 5, 1, 6)
	checkNotFound(t, laid(-5, -3, 8), -1)
	checkNotFound(t, laid(0, math.MinInt), 0)
	checkNotFound(t, laid(0, math.MinInt), math.MaxInt)
	checkNotFound(t, laid(0, -full), 0)
	checkFind(t, laid(0, 1-full), 0, 0, full-1)
	checkFind(t, laid(0, math.MaxInt-full, math.MaxInt), math.MaxInt, 1, 0)
	checkFind(t, laid(0, math.MaxInt-full+1), math.MaxInt, 0, full-1)
	checkNotFound(t, laid(0, math.MaxInt-full), math.MaxInt)
	checkFind(t, laid(0, 9, 5, 7, 20), 9, 2, 2)
	checkFind(t, laid(0, 9, 5, 7, 20), 6, 1, 1)
	checkNotFound(t, laid(0, 9, 5, 7, 20), 4)
	checkNotFound(t, laid(0, 9000, 0, 9000), full)
	checkNotFound(t, laid(0, 10000-full+1, 0, 20000), 10000)
	checkFind(t, laid(0, spaced(1000, 1)...), 2000, 999, 1001)
	checkNotFound(t, laid(math.MaxInt, 0), math.MaxInt-1)
}

func TestEndOfEachPart(t *testing.T) {
	c := laid(6, 5, 9, 12)
	for part, want := range map[int]int{
		math.MinInt: -1, -2: -1, -1: -1, 0: 9, 1: 12, 2: -1, 3: -1, 4: -1, math.MaxInt: -1, math.MaxInt - 1: -1,
	} {
		checkEnd(t, c, part, want)
		checkEnd(t, chain.Chain{}, part, -1)
		checkEnd(t, laid(0, 0), part, -1)
	}
	checkEnd(t, laid(0, 4, -9), 0, -9)
	checkEnd(t, laid(0, 4, math.MaxInt, math.MinInt), 1, math.MinInt)
	great := laid(0, spaced(api.MaxChain, 3)...)
	for i := range api.MaxChain - 1 {
		checkEnd(t, great, i, 3*(i+1))
	}
	checkEnd(t, great, api.MaxChain-1, -1)
}

// P1005

func TestExtendOfNothing(t *testing.T) {
	want := chain.Chain{Owner: 1, Parts: []chain.Part{part(0, three(5))}}
	checkExtend(t, chain.Chain{}, 3, 1, 0, three(5), want, api.OK)
	checkExtend(t, chain.Chain{Owner: 9, Parts: []chain.Part{}}, 3, 1, 0, three(5), want, api.OK)
	for _, end := range []int{math.MinInt, -1, 1, full, math.MaxInt} {
		checkEnds(t, chain.Chain{}, end, api.ErrArg)
	}
}

func TestExtendLaysAPartBehind(t *testing.T) {
	c := laid(3, 0, 7)
	want := laid(3, 0, 7, 20)
	want.Owner, want.Parts[2].Config = 4, of(11, 2, 0)
	checkExtend(t, c, 3, 4, 20, of(11, 2, 0), want, api.OK)
	want = laid(3, 0, 20)
	want.Owner, want.Parts[1].Config = 0, of(top, 1)
	checkExtend(t, laid(3, 0), 3, 0, 20, of(top, 1), want, api.OK)
}

func TestExtendOfALastPartInWhichNothingIs(t *testing.T) {
	want := laid(3, 0, 7)
	want.Owner, want.Parts[1].Config = 4, three(11)
	checkExtend(t, laid(3, 0, 7), 3, 4, 7, three(11), want, api.OK)
	checkExtend(t, laid(0, 0), 3, 4, 0, three(11), chain.Chain{Owner: 4, Parts: []chain.Part{part(0, three(11))}}, api.OK)
	want = laid(3, 0, 7, 7)
	want.Owner, want.Parts[2].Config = 4, three(11)
	checkExtend(t, laid(3, 0, 7, 7), 3, 4, 7, three(11), want, api.OK)
}

func TestExtendOfAnOnlyPartThatIsGivenUp(t *testing.T) {
	one := func(trim int) chain.Chain {
		return chain.Chain{Owner: 4, Trim: trim, Parts: []chain.Part{part(trim, three(11))}}
	}
	checkExtend(t, laid(9, 5), 3, 4, 9, three(11), one(9), api.OK)
	checkExtend(t, laid(5, 5), 3, 4, 5, three(11), one(5), api.OK)
	checkExtend(t, laid(5+full, 5), 3, 4, 5+full, three(11), one(5+full), api.OK)
	want := laid(9, 5, 10)
	want.Owner, want.Parts[1].Config = 4, three(11)
	checkExtend(t, laid(9, 5), 3, 4, 10, three(11), want, api.OK)
}

func TestExtendMayTakeTheIDOfAPartThatGoes(t *testing.T) {
	want := laid(3, 0, 7)
	checkExtend(t, laid(3, 0, 7), 3, 1, 7, three(2), want, api.OK)
	checkExtend(t, laid(9, 5), 3, 1, 9, three(1), laid(9, 9), api.OK)
	checkExtend(t, laid(3, 0, 7), 3, 1, 8, three(2), chain.Chain{}, api.ErrArg)
	checkExtend(t, laid(3, 0, 7), 3, 1, 7, three(1), chain.Chain{}, api.ErrArg)
}

func TestExtendWhereMayTheEndBe(t *testing.T) {
	for _, c := range []chain.Chain{laid(0, 0), laid(3, 0, 7), laid(7, 7, 9, 9, 9), laid(5, 5)} {
		checkEnds(t, c, last(c), api.OK)
		checkEnds(t, c, last(c)+1, api.OK)
		checkEnds(t, c, last(c)+full-1, api.OK)
		checkEnds(t, c, last(c)+full, api.OK)
		checkEnds(t, c, last(c)+full+1, api.ErrArg)
		checkEnds(t, c, last(c)-1, api.ErrArg)
		checkEnds(t, c, -1, api.ErrArg)
		checkEnds(t, c, math.MinInt, api.ErrArg)
		checkEnds(t, c, math.MaxInt, api.ErrArg)
	}
}

func TestExtendBelowTheTrim(t *testing.T) {
	for end := 5; end < 20; end++ {
		checkEnds(t, laid(20, 5), end, api.ErrArg)
	}
	checkEnds(t, laid(20, 5), 20, api.OK)
	checkEnds(t, laid(20, 5), 5+full, api.OK)
	checkEnds(t, laid(20, 5), 6+full, api.ErrArg)
	checkEnds(t, laid(5+full, 5), 4+full, api.ErrArg)
	checkEnds(t, laid(5+full, 5), 5+full, api.OK)
	checkEnds(t, laid(5+full, 5), 6+full, api.ErrArg)
}

func TestExtendToTheGreatestAddress(t *testing.T) {
	checkEnds(t, laid(top-1, top-1), top, api.OK)
	checkEnds(t, laid(top, top), top, api.OK)
	checkEnds(t, laid(top, top), api.MaxNumber, api.ErrArg)
	checkEnds(t, laid(top, top-full), top, api.OK)
	checkEnds(t, laid(api.MaxNumber-full, api.MaxNumber-full), api.MaxNumber, api.ErrArg)
}

func TestExtendOfAFullChain(t *testing.T) {
	c := laid(1, spaced(api.MaxChain, 2)...)
	for _, end := range []int{math.MinInt, -1, 0, 125, 127, 126 + full, 127 + full, math.MaxInt} {
		checkEnds(t, c, end, api.ErrFull)
	}
	checkEnds(t, c, 126, api.OK)
	checkExtend(t, c, 3, 16, 127, three(1), chain.Chain{}, api.ErrFull)
	checkExtend(t, c, 3, 16, 126, three(100), chain.Chain{}, api.ErrArg)
	checkExtend(t, c, 3, 1, 126, three(1), chain.Chain{}, api.ErrArg)
	less := laid(1, spaced(api.MaxChain-1, 2)...)
	checkEnds(t, less, 125, api.OK)
	checkEnds(t, less, 123, api.ErrArg)
	if d := mustExtend(t, less, 3, 2, 125, three(100)); len(d.Parts) != api.MaxChain {
		t.Errorf("%d parts", len(d.Parts))
	}
	if d := mustExtend(t, c, 3, 2, 126, three(100)); len(d.Parts) != api.MaxChain || d.Parts[63].Config.ID != 100 {
		t.Errorf("%v", d)
	}
}

func TestExtendToWhatMayNotBe(t *testing.T) {
	for _, c := range []chain.Chain{{}, laid(0, 0), laid(3, 0, 7)} {
		end := last(c)
		for _, owner := range []int{math.MinInt, -1, 16, 256, math.MaxInt} {
			checkExtend(t, c, 3, owner, end, three(9), chain.Chain{}, api.ErrArg)
		}
		for _, next := range []loglet.Config{
			{}, of(9), of(9, 3), of(9, -1), of(9, 0, 0), three(-1), three(api.MaxNumber), of(9, spaced(10, 1)...), three(math.MinInt),
		} {
			checkExtend(t, c, 3, 1, end, next, chain.Chain{}, api.ErrArg)
		}
		for _, owner := range []int{0, 15} {
			if d := mustExtend(t, c, 3, owner, end, of(top, 2)); d.Owner != owner {
				t.Errorf("%v", d)
			}
		}
	}
}

func TestExtendOfAnyNodes(t *testing.T) {
	for _, nodes := range []int{1, 256, 257, math.MaxInt} {
		want := chain.Chain{Owner: 1, Parts: []chain.Part{part(0, of(5, nodes-1))}}
		checkExtend(t, chain.Chain{}, nodes, 1, 0, of(5, nodes-1), want, api.OK)
		checkExtend(t, chain.Chain{}, nodes, 1, 0, of(5, nodes), chain.Chain{}, api.ErrArg)
		checkCut(t, want, nodes, 0, want, api.OK)
	}
	for _, nodes := range []int{math.MinInt, -1, 0} {
		checkExtend(t, chain.Chain{}, nodes, 1, 0, of(5, 0), chain.Chain{}, api.ErrArg)
		checkCut(t, chain.Chain{Owner: 4}, nodes, 0, chain.Chain{Owner: 4}, api.OK)
	}
}

// P1006

// behind is what is left of c, from the part on.
func behind(c chain.Chain, part, trim int) chain.Chain {
	return chain.Chain{Owner: c.Owner, Trim: trim, Parts: c.Parts[part:]}
}

func TestCutAtEachEdge(t *testing.T) {
	c := laid(6, 5, 9, 12, 20)
	for addr, part := range map[int]int{6: 0, 7: 0, 8: 0, 9: 1, 10: 1, 11: 1, 12: 2, 19: 2, 20: 3} {
		checkCut(t, c, 3, addr, behind(c, part, addr), api.OK)
	}
	for _, addr := range []int{math.MinInt, -1, 0, 5, 21, 20 + full, math.MaxInt} {
		checkCut(t, c, 3, addr, chain.Chain{}, api.ErrArg)
	}
}

func TestCutOfNoParts(t *testing.T) {
	checkCut(t, chain.Chain{Owner: 7}, 3, 0, chain.Chain{Owner: 7}, api.OK)
	for _, addr := range []int{math.MinInt, -1, 1, math.MaxInt} {
		checkCut(t, chain.Chain{Owner: 7}, 3, addr, chain.Chain{}, api.ErrArg)
	}
}

func TestCutOfOnePart(t *testing.T) {
	checkCut(t, laid(5, 5), 3, 5, laid(5, 5), api.OK)
	checkCut(t, laid(5, 5), 3, 6, chain.Chain{}, api.ErrArg)
	checkCut(t, laid(5, 5), 3, 4, chain.Chain{}, api.ErrArg)
	for addr := 4; addr < 12; addr++ { // the Trim lies above the last First already
		checkCut(t, laid(9, 5), 3, addr, chain.Chain{}, api.ErrArg)
	}
}

func TestCutOfEqualFirsts(t *testing.T) {
	c := laid(3, 0, 7, 7, 9, 9)
	for addr, part := range map[int]int{3: 0, 6: 0, 7: 2, 8: 2, 9: 4} {
		checkCut(t, c, 3, addr, behind(c, part, addr), api.OK)
	}
	checkCut(t, c, 3, 10, chain.Chain{}, api.ErrArg)
}

func TestCutOfTheGreatestChain(t *testing.T) {
	c := laid(0, spaced(api.MaxChain, full)...)
	for i := range api.MaxChain {
		checkCut(t, c, 3, i*full, behind(c, i, i*full), api.OK)
		if i > 0 {
			checkCut(t, c, 3, i*full-1, behind(c, i-1, i*full-1), api.OK)
		}
	}
	checkCut(t, laid(top-1, top-1, top), 3, top, chain.Chain{Owner: 1, Trim: top, Parts: []chain.Part{part(top, three(2))}}, api.OK)
}

// P1001

// roomy is a copy of list with room behind it, which is filled.
func roomy[T any](list []T, fill T) []T {
	room := make([]T, len(list)+3)
	for i := range room {
		room[i] = fill
	}
	copy(room, list)
	return room[:len(list)]
}

func roomyConfig(c loglet.Config) loglet.Config { return of(c.ID, roomy(c.Nodes, 77)...) }

func roomyChain(c chain.Chain) chain.Chain {
	c.Parts = roomy(c.Parts, part(77, of(77, 77)))
	for i, p := range c.Parts {
		c.Parts[i].Config = roomyConfig(p.Config)
	}
	return c
}

// whole has the room behind the lists, too.
func whole(c chain.Chain) chain.Chain {
	c.Parts = slices.Clone(c.Parts[:cap(c.Parts)])
	for i, p := range c.Parts {
		c.Parts[i].Config.Nodes = slices.Clone(p.Config.Nodes[:cap(p.Config.Nodes)])
	}
	return c
}

// spoil overwrites all of it, with the room behind it.
func spoil(c chain.Chain) {
	parts := c.Parts[:cap(c.Parts)]
	for i := range parts {
		nodes := parts[i].Config.Nodes[:cap(parts[i].Config.Nodes)]
		for k := range nodes {
			nodes[k] = -9
		}
		parts[i] = part(-9, of(-9))
	}
}

func spoilBytes(b []byte) {
	for i := range b[:cap(b)] {
		b[:cap(b)][i] ^= 0xA5
	}
}

func TestWhatIsHandedInIsNotChanged(t *testing.T) {
	for _, c := range good() {
		handed := roomyChain(c)
		next := roomyConfig(three(100))
		before := whole(handed)
		chain.Check(handed, 3)
		chain.Encode(handed, 3)
		chain.Find(handed, last(c))
		chain.End(handed, 0)
		for _, at := range []int{0, c.Trim, last(c), last(c) + 1, last(c) + full} {
			chain.Extend(handed, 3, 2, at, next)
			chain.Cut(handed, 3, at)
		}
		if !same(whole(handed), before) || !slices.Equal(next.Nodes[:cap(next.Nodes)], []int{0, 1, 2, 77, 77, 77}) {
			t.Errorf("%v: it is %v now, and %v", c, whole(handed), next)
		}
	}
}

func TestWhatIsHandedInIsNotKept(t *testing.T) {
	for _, c := range good() {
		for _, at := range []int{c.Trim, last(c), last(c) + full} {
			handed, next := roomyChain(c), roomyConfig(three(100))
			longer, e := chain.Extend(handed, 3, 2, at, next)
			shorter, f := chain.Cut(handed, 3, at)
			wantLonger, wantShorter := like(longer), like(shorter)
			spoil(handed)
			spoil(chain.Chain{Parts: []chain.Part{part(0, next)}})
			if !same(longer, wantLonger) || !same(shorter, wantShorter) {
				t.Errorf("%v, %d: %v, %d, and %v, %d, behind a change of what was handed in", c, at, longer, e, shorter, f)
			}
		}
		b := roomy(mustEncode(t, c, 3), 77)
		before := slices.Clone(b[:cap(b)])
		read, e := chain.Decode(b, 3)
		if !slices.Equal(b[:cap(b)], before) {
			t.Errorf("%v: Decode changed its bytes", c)
		}
		spoilBytes(b)
		if !same(read, c) || e != api.OK {
			t.Errorf("%v: %v, %d, behind a change of its bytes", c, read, e)
		}
	}
}

func TestWhatIsAnsweredIsNewMemory(t *testing.T) {
	for _, c := range good() {
		handed, next := like(c), three(100)
		b := mustEncode(t, handed, 3)
		again := slices.Clone(b)
		read, _ := chain.Decode(b, 3)
		spoil(read)
		spoilBytes(b)
		checkEncode(t, handed, 3, again, api.OK)
		for _, at := range []int{c.Trim, last(c), last(c) + full} {
			longer, _ := chain.Extend(handed, 3, 2, at, next)
			shorter, _ := chain.Cut(handed, 3, at)
			spoil(longer)
			spoil(shorter)
			if !same(handed, c) || !slices.Equal(next.Nodes, []int{0, 1, 2}) {
				t.Fatalf("%v: it is %v now, and %v", c, handed, next)
			}
		}
	}
}

// checkApart looks whether one list of c shows in another one.
func checkApart(t *testing.T, c chain.Chain) {
	t.Helper()
	for i, p := range c.Parts {
		before := like(c)
		nodes := p.Config.Nodes[:cap(p.Config.Nodes)]
		for k := range nodes {
			nodes[k] += 1000
		}
		for j, q := range c.Parts {
			if j != i && !samePart(q, before.Parts[j]) {
				t.Errorf("the nodes of the parts %d and %d share memory", i, j)
			}
		}
	}
}

func TestListsOfOneAnswerAreApart(t *testing.T) {
	nodes := []int{0, 1, 2}
	c := laid(0, spaced(10, 2)...)
	for i := range c.Parts {
		c.Parts[i].Config.Nodes = nodes
	}
	longer := mustExtend(t, c, 3, 1, 30, of(100, nodes...))
	checkApart(t, longer)
	checkApart(t, mustExtend(t, c, 3, 1, 18, loglet.Config{ID: 100, Nodes: nodes}))
	checkApart(t, mustCut(t, c, 3, 5))
	read, e := chain.Decode(mustEncode(t, c, 3), 3)
	if e != api.OK {
		t.Fatal(e)
	}
	checkApart(t, read)
	if !slices.Equal(nodes, []int{0, 1, 2}) {
		t.Errorf("%v", nodes)
	}
}

func TestCallsOnGreatArguments(t *testing.T) {
	huge := laid(0, spaced(1<<20, 0)...)
	checkCheck(t, huge, 3, api.ErrArg)
	long := with(of(1, make([]int, 1<<20)...))
	checkCheck(t, long, 3, api.ErrArg)
	checkExtend(t, long, 3, 1, 0, three(1), chain.Chain{}, api.ErrArg)
	checkExtend(t, chain.Chain{}, 3, 1, 0, of(1, make([]int, 1<<20)...), chain.Chain{}, api.ErrArg)
	checkNoChain(t, make([]byte, 1<<20), 3, api.ErrForm)
}
