package broker_test

import (
	"math"
	"slices"
	"testing"

	"gazette/api"
	"gazette/broker"
	"gazette/group"
	"gazette/ledger"
	"gazette/loglet"
	"gazette/net"
	"gazette/node"
	"gazette/register"
	"gazette/txn"
	"gazette/vlog"
)

// P1701

func TestOneThatNewDidNotMake(t *testing.T) {
	for _, b := range []*broker.Broker{nil, {}, new(broker.Broker)} {
		checkProduce(t, b, 0, nobodys("a"), 0, api.ErrArg)
		checkProduce(t, b, 0, in(0, 0, 0, "a"), 0, api.ErrArg)
		checkNoFetch(t, b, 0, 0, 9, api.ErrArg)
		checkEnds(t, b, 0, 0, 0, 0, api.ErrArg)
		checkChange(t, b, 0, ledger.Retain, 0, api.ErrArg)
		checkTxn(t, b, start("x", 10, 0), 0, 0, api.ErrArg)
		checkTxn(t, b, over(0), 0, 0, api.ErrArg)
		checkFinish(t, b, 0, api.ErrArg)
		checkGroup(t, b, 0, join("m", 0), api.ErrArg, 0)
		checkOffset(t, b, 0, 0, 0, false, api.ErrArg)
		checkHolds(t, b)
	}
}

// TestAnyArguments: whatever is asked, there is an answer.
func TestAnyArguments(t *testing.T) {
	l, b, _ := three(t)
	numbers := []int{math.MinInt, -1 << 48, -1, 0, 1, 2, 99, 100, 200, 1 << 31, 1 << 48, math.MaxInt}
	long := string(make([]byte, 1<<17))
	for _, n := range numbers {
		for _, m := range numbers {
			b.Produce(n, of(m, n, m, "a"))
			b.Produce(0, in(n, m, 0, "a"))
			b.Produce(0, of(n, 0, m, make([]string, 100)...))
			b.Fetch(n, m, 3, true)
			b.Fetch(0, n, m, false)
			b.Ends(n)
			b.Change(n, 2, m)
			b.Change(0, n, m)
			b.Txn(txn.Event{Kind: n, Name: long, Producer: m, Timeout: n})
			b.Txn(add(n, m, n, m))
			b.Txn(over(n))
			b.Group(n, group.Event{Kind: m, Member: long})
			b.Group(0, promise("m", n, m, n, m, n))
			b.Group(0, silent(n))
			b.Offset(n, m)
			b.Holds(n)
		}
	}
	checkFinish(t, b, 0, api.OK)
	// The caller may spoil the link: it is worked with as it is.
	spoilt := []vlog.Link{{}, {Loglets: l.Loglets}, {Register: l.Register}, {Loglets: &loglet.Link{}, Register: l.Register}, {Loglets: l.Loglets, Register: &register.Link{}}}
	whole := *l
	for _, x := range spoilt {
		*l = x
		checkProduce(t, b, 0, nobodys("a"), 0, api.ErrArg)
		checkNoFetch(t, b, 1, 0, 9, api.ErrArg)
		checkFinish(t, b, 0, api.ErrArg)
		checkOffset(t, b, 0, 0, 0, false, api.ErrArg)
		if b.Holds(0) || b.Holds(1) || b.Holds(100) || b.Holds(200) {
			t.Errorf("it holds what it can't ask of")
		}
	}
	*l = whole
	checkFinish(t, b, 0, api.OK)
}

// TestWhatIsHandedInIsNotKept: all of it is changed behind each call.
func TestWhatIsHandedInIsNotKept(t *testing.T) {
	_, a, b := three(t)
	room := append(make([]api.Record, 0, 8), nobodys("a", "b", "c").Records...)
	x := nobodys()
	x.Records = room[:2]
	checkProduce(t, a, 0, x, 0, api.OK)
	if len(x.Records) != 2 || room[:8][2].Value != "c" || room[:8][3] != (api.Record{}) || room[0].Value != "a" {
		t.Errorf("the records are changed: %v", room[:8])
	}
	spoil(room, api.Record{Key: "spoilt"})
	checkFetch(t, a, 0, 0, false, 2, "0:a", "1:b")
	checkFetch(t, b, 0, 0, false, 2, "0:a", "1:b")
	y := of(7, 0, 0, "d")
	checkProduce(t, b, 0, y, 2, api.OK)
	spoil(y.Records, api.Record{Key: "spoilt"})
	checkProduce(t, b, 0, of(7, 0, 0, "d"), 2, api.OK)
	checkFetch(t, b, 0, 2, false, 3, "2:d")
}

func TestWhatIsAnsweredIsNewMemory(t *testing.T) {
	_, a, _ := three(t)
	checkProduce(t, a, 0, nobodys("a", "b", "c"), 0, api.OK)
	checkGroup(t, a, 0, join("m", 0), api.OK, 1, 0, 1)
	one, _, _ := a.Fetch(0, 0, 2, false)
	two, _, _ := a.Fetch(0, 0, 2, true)
	_, share, _ := a.Group(0, join("m", 0))
	_, again, _ := a.Group(0, join("m", 0))
	spoil(one, ledger.Row{Offset: 77})
	spoil(share, 77)
	if !slices.Equal(told(two), []string{"0:a", "1:b"}) || !slices.Equal(again, []int{0, 1}) {
		t.Errorf("answers share memory: %v, %v", told(two), again)
	}
	checkFetch(t, a, 0, 0, false, 3, "0:a", "1:b", "2:c")
	checkGroup(t, a, 0, join("m", 0), api.OK, 1, 0, 1)
	// And none changes when something is done later.
	checkChange(t, a, 0, ledger.Retain, 2, api.OK)
	checkGroup(t, a, 0, join("n", 0), api.OK, 2, 1)
	if !slices.Equal(told(two), []string{"0:a", "1:b"}) || !slices.Equal(again, []int{0, 1}) {
		t.Errorf("answers change later: %v, %v", told(two), again)
	}
}

// P1702

func TestNew(t *testing.T) {
	l := mustLink(t, 3, 3, 50)
	was := world(l)
	for _, id := range []int{math.MinInt, -1, 0, 1, 15, 16, math.MaxInt} {
		for _, parts := range []int{math.MinInt, -1, 0, 1, 2, api.MaxParts, api.MaxParts + 1, math.MaxInt} {
			for _, session := range []int{math.MinInt, -1, 0, 1, 10, 3600, 3601, math.MaxInt} {
				want := api.OK
				if id < 0 || id > 15 || parts < 1 || parts > 32 || session < 1 || session > 3600 {
					want = api.ErrArg
				}
				b, e := broker.New(l, id, parts, session)
				if e != want || (b == nil) != (e != api.OK) {
					t.Errorf("New(%d, %d, %d): %v, %d, not %d", id, parts, session, b, e, want)
				}
				if e == api.OK {
					checkHolds(t, b)
				}
			}
		}
	}
	checkWorld(t, l, was)
	checkSilent(t, l, func() { mustBroker(t, l, 0, 1, 1) })
}

func TestNewOfALinkThatIsNone(t *testing.T) {
	l := mustLink(t, 3, 3, 50)
	nodes, acceptors := l.Loglets.Nodes, l.Register.Acceptors
	for i, x := range []*vlog.Link{
		nil, {}, {Loglets: l.Loglets}, {Register: l.Register},
		{Loglets: &loglet.Link{Nodes: nodes}, Register: l.Register},
		{Loglets: l.Loglets, Register: &register.Link{Acceptors: acceptors}},
		{Loglets: &loglet.Link{Net: new(net.Net), Nodes: nodes}, Register: l.Register},
		{Loglets: l.Loglets, Register: &register.Link{Net: new(net.Net), Acceptors: acceptors}},
	} {
		if b, e := broker.New(x, 0, 1, 1); b != nil || e != api.ErrArg {
			t.Errorf("New of the link %d: %v, %d", i, b, e)
		}
	}
}

// TestTheLinkIsKept: nodes that come later are worked with.
func TestTheLinkIsKept(t *testing.T) {
	l := mustLink(t, 0, 3, 0)
	b := mustBroker(t, l, 0, 1, 1)
	checkProduce(t, b, 0, nobodys("a"), 0, api.ErrArg)
	checkHolds(t, b)
	n, _ := node.New(50)
	l.Loglets.Nodes = append(l.Loglets.Nodes, n)
	checkProduce(t, b, 0, nobodys("a"), 0, api.OK)
	checkHolds(t, b, 0)
}

// TestIdsPartsAndSession: what New is told is what the broker goes by.
func TestIdsPartsAndSession(t *testing.T) {
	l := mustLink(t, 3, 3, 200)
	for _, id := range []int{0, 15} {
		b := mustBroker(t, l, id, api.MaxParts, 3600)
		for _, part := range []int{0, api.MaxParts - 1} {
			checkEnds(t, b, part, 0, 0, 0, api.OK)
			// The number of the loglet tells who opened it.
			s := l.Loglets.Nodes[0].Store()
			if e := b.Change(part, ledger.Retain, 1); e != api.ErrRange {
				t.Errorf("Change: %d", e)
			}
			checkProduce(t, b, part, nobodys("a"), 0, api.OK)
			if got := s.Loglets(); got[len(got)-1]%16 != id {
				t.Errorf("the loglets are %v", got)
			}
			if e := b.Change(part, ledger.Retain, 1); e != api.OK {
				t.Errorf("Change: %d", e)
			}
		}
		l = mustLink(t, 3, 3, 200)
	}
	b := mustBroker(t, l, 3, 3, 5)
	checkGroup(t, b, 0, join("m", 0), api.OK, 1, 0, 1, 2)
	checkGroup(t, b, 0, silent(4), api.OK, 1)
	checkGroup(t, b, 0, silent(5), api.OK, 2)
}

// P1708

func TestHolds(t *testing.T) {
	_, a, b := three(t)
	checkEnds(t, a, 1, 0, 0, 0, api.OK)
	checkHolds(t, a, 1)
	checkFinish(t, a, 0, api.OK)
	checkHolds(t, a, 1, 100)
	checkOffset(t, a, 0, 0, 0, false, api.OK)
	checkOffset(t, a, 99, 0, 0, false, api.OK)
	checkHolds(t, a, 1, 100, 200, 299)
	checkHolds(t, b)
	// Who has lost a log does not know it till it calls.
	checkEnds(t, b, 1, 0, 0, 0, api.OK)
	checkHolds(t, b, 1)
	checkHolds(t, a, 1, 100, 200, 299)
	checkEnds(t, a, 1, 0, 0, 0, api.ErrOwner)
	checkHolds(t, a, 100, 200, 299)
	checkHolds(t, b, 1)
}

// The chapter's examples

func TestExamples(t *testing.T) {
	_, one, two := three(t)
	checkProduce(t, one, 0, nobodys("x"), 0, api.OK)
	checkFetch(t, two, 0, 0, false, 1, "0:x")
	checkProduce(t, one, 0, nobodys("y"), 0, api.ErrSeal)
	checkProduce(t, one, 0, nobodys("y"), 1, api.OK)
}
