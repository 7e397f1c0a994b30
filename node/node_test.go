package node_test

import (
	"fmt"
	"math"
	"math/rand/v2"
	"slices"
	"testing"

	"gazette/api"
	"gazette/disk"
	"gazette/node"
	"gazette/store"
)

func mustNew(t *testing.T, blocks int) *node.Node {
	t.Helper()
	n, e := node.New(blocks)
	if n == nil || e != api.OK {
		t.Fatalf("New(%d): %v, %d", blocks, n, e)
	}
	return n
}

// ask answers n's reply to r, which must come.
func ask(t *testing.T, n *node.Node, r node.Request) node.Reply {
	t.Helper()
	p, e := node.GetReply(n.Ask(requestBytes(r)))
	if e != api.OK {
		t.Fatalf("Ask(%d %d %d, %d bytes): no reply", r.Kind, r.Loglet, r.Pos, len(r.Data))
	}
	return p
}

func checkAsk(t *testing.T, n *node.Node, r node.Request, want node.Reply) {
	t.Helper()
	if p := ask(t, n, r); !sameReply(p, want) {
		t.Errorf("Ask(%d %d %d, %d bytes): %d %d %v, %d bytes, not %d %d %v, %d bytes", r.Kind, r.Loglet, r.Pos, len(r.Data),
			p.E, p.Tail, p.Sealed, len(p.Data), want.E, want.Tail, want.Sealed, len(want.Data))
	}
}

func checkNothing(t *testing.T, n *node.Node, b []byte) {
	t.Helper()
	if got := n.Ask(b); len(got) != 0 {
		t.Errorf("Ask(%x): %x, not nothing", head(b), head(got))
	}
}

func checkUp(t *testing.T, n *node.Node, want bool) {
	t.Helper()
	if n.Up() != want || (n.Store() != nil) != want {
		t.Errorf("Up: %v, Store: %v, not %v", n.Up(), n.Store(), want)
	}
}

func checkStart(t *testing.T, n *node.Node, choices []int) {
	t.Helper()
	if e := n.Start(choices); e != api.OK {
		t.Errorf("Start(%v): %d", choices, e)
	}
	checkUp(t, n, true)
}

// all tells whatever can be asked of a node's store.
func all(n *node.Node) string {
	s := n.Store()
	told := fmt.Sprint("free ", s.Free(), "\n")
	for _, l := range s.Loglets() {
		told += fmt.Sprint(l, " ", s.Tail(l), s.Trimmed(l), s.Sealed(l), ":")
		for pos := range min(s.Tail(l)+2, api.MaxSlots) {
			b, e := s.Get(l, pos)
			told += fmt.Sprintf(" %d %x", e, b)
		}
		told += "\n"
	}
	return told
}

func checkAll(t *testing.T, n *node.Node, want string) {
	t.Helper()
	if got := all(n); got != want {
		t.Errorf("the store is\n%snot\n%s", got, want)
	}
}

// everyKind has a request of each kind.
func everyKind(loglet int) []node.Request {
	return []node.Request{
		{Kind: node.Write, Loglet: loglet, Pos: 4, Data: []byte("e")},
		{Kind: node.Repair, Loglet: loglet, Pos: 5, Data: filled(3, 600)},
		{Kind: node.Seal, Loglet: loglet},
		{Kind: node.Read, Loglet: loglet, Pos: 1},
		{Kind: node.Look, Loglet: loglet},
		{Kind: node.Trim, Loglet: loglet, Pos: 1},
	}
}

// rubbish has bytes that are no request.
func rubbish() [][]byte {
	may := requestBytes(node.Request{Kind: node.Write, Data: []byte("a")})
	return [][]byte{
		nil,
		{},
		[]byte("x"),
		make([]byte, 1<<17),
		may[:len(may)-1],
		append(slices.Clone(may), 0),
		frame(replyFrame, []byte{1, 0, 0, 0, 0, 0, 0, 0, 0}),
		frame(requestFrame, nil),
		requestBytes(node.Request{Kind: 0}),
		requestBytes(node.Request{Kind: 7}),
		requestBytes(node.Request{Kind: 255}),
		requestBytes(node.Request{Kind: node.Write, Pos: api.MaxSlots + 1}),
		requestBytes(node.Request{Kind: node.Write, Data: filled(1, maxData+1)}),
		requestBytes(node.Request{Kind: node.Seal, Pos: 1}),
		requestBytes(node.Request{Kind: node.Look, Pos: 1}),
		requestBytes(node.Request{Kind: node.Read, Data: []byte("a")}),
		requestBytes(node.Request{Kind: node.Trim, Pos: 1, Data: []byte("a")}),
	}
}

// P501

func TestNodeThatNewDidNotMake(t *testing.T) {
	for _, n := range []*node.Node{nil, {}, new(node.Node)} {
		for range 2 {
			n.Cut(0)
			n.Cut(-1)
			n.Stop()
			if e := n.Start([]int{1}); e != api.ErrArg {
				t.Errorf("Start: %d, not ErrArg", e)
			}
			checkUp(t, n, false)
			for _, r := range everyKind(1) {
				checkNothing(t, n, requestBytes(r))
			}
			for _, b := range rubbish() {
				checkNothing(t, n, b)
			}
		}
	}
}

// P503

func TestNew(t *testing.T) {
	for _, blocks := range []int{math.MinInt, -1, 0, api.MaxBlocks + 1, math.MaxInt} {
		if n, e := node.New(blocks); n != nil || e != api.ErrArg {
			t.Errorf("New(%d): %v, %d, not ErrArg", blocks, n, e)
		}
	}
	for _, blocks := range []int{1, 2, api.MaxBlocks} {
		n := mustNew(t, blocks)
		checkUp(t, n, true)
		checkAll(t, n, fmt.Sprint("free ", blocks, "\n"))
	}
}

func TestNodesHaveDisksOfTheirOwn(t *testing.T) {
	n, m := mustNew(t, 3), mustNew(t, 3)
	checkAsk(t, n, node.Request{Kind: node.Write, Data: []byte("a")}, node.Reply{Tail: 1})
	checkAll(t, m, "free 3\n")
	n.Cut(0)
	checkNothing(t, n, requestBytes(node.Request{Kind: node.Seal}))
	checkAsk(t, m, node.Request{Kind: node.Seal}, node.Reply{Sealed: true})
}

// P504

func TestExamples(t *testing.T) {
	n := mustNew(t, 8)
	checkAsk(t, n, node.Request{Kind: node.Write, Loglet: 1, Data: []byte("a")}, node.Reply{Tail: 1})
	checkAsk(t, n, node.Request{Kind: node.Seal, Loglet: 1}, node.Reply{Tail: 1, Sealed: true})
	checkAsk(t, n, node.Request{Kind: node.Write, Loglet: 1, Pos: 1, Data: []byte("b")}, node.Reply{E: api.ErrSeal, Tail: 1, Sealed: true})
	checkAsk(t, n, node.Request{Kind: node.Read, Loglet: 1}, node.Reply{Tail: 1, Sealed: true, Data: []byte("a")})
}

func TestEveryAnswer(t *testing.T) {
	n := mustNew(t, 12)
	for _, c := range []struct {
		r    node.Request
		want node.Reply
	}{
		{node.Request{Kind: node.Look, Loglet: 1}, node.Reply{}},
		{node.Request{Kind: node.Read, Loglet: 1}, node.Reply{E: api.ErrNone}},
		{node.Request{Kind: node.Write, Loglet: 1, Pos: 2, Data: []byte("a")}, node.Reply{Tail: 3}},
		{node.Request{Kind: node.Write, Loglet: 1, Pos: 2, Data: []byte("b")}, node.Reply{E: api.ErrTwice, Tail: 3}},
		{node.Request{Kind: node.Repair, Loglet: 1, Pos: 2, Data: []byte("b")}, node.Reply{E: api.ErrTwice, Tail: 3}},
		{node.Request{Kind: node.Repair, Loglet: 1, Pos: 2, Data: []byte("a")}, node.Reply{Tail: 3}},
		{node.Request{Kind: node.Write, Loglet: 1, Pos: 0}, node.Reply{Tail: 3}},
		{node.Request{Kind: node.Read, Loglet: 1, Pos: 0}, node.Reply{Tail: 3}},
		{node.Request{Kind: node.Read, Loglet: 1, Pos: 1}, node.Reply{E: api.ErrNone, Tail: 3}},
		{node.Request{Kind: node.Read, Loglet: 1, Pos: 2}, node.Reply{Tail: 3, Data: []byte("a")}},
		{node.Request{Kind: node.Trim, Loglet: 1, Pos: 1}, node.Reply{Tail: 3}},
		{node.Request{Kind: node.Write, Loglet: 1, Pos: 0}, node.Reply{E: api.ErrTrim, Tail: 3}},
		{node.Request{Kind: node.Read, Loglet: 1, Pos: 0}, node.Reply{E: api.ErrTrim, Tail: 3}},
		{node.Request{Kind: node.Seal, Loglet: 1}, node.Reply{Tail: 3, Sealed: true}},
		{node.Request{Kind: node.Write, Loglet: 1, Pos: 3, Data: []byte("c")}, node.Reply{E: api.ErrSeal, Tail: 3, Sealed: true}},
		{node.Request{Kind: node.Write, Loglet: 1, Pos: 2, Data: []byte("a")}, node.Reply{Tail: 3, Sealed: true}},
		{node.Request{Kind: node.Repair, Loglet: 1, Pos: 3, Data: []byte("c")}, node.Reply{Tail: 4, Sealed: true}},
		{node.Request{Kind: node.Trim, Loglet: 1, Pos: 6}, node.Reply{Tail: 6, Sealed: true}},
		{node.Request{Kind: node.Look, Loglet: 1}, node.Reply{Tail: 6, Sealed: true}},
		{node.Request{Kind: node.Look, Loglet: 0}, node.Reply{}},
		{node.Request{Kind: node.Repair, Loglet: lastLoglet, Data: []byte("z")}, node.Reply{Tail: 1}},
		{node.Request{Kind: node.Read, Loglet: lastLoglet}, node.Reply{Tail: 1, Data: []byte("z")}},
		{node.Request{Kind: node.Seal, Loglet: lastLoglet}, node.Reply{Tail: 1, Sealed: true}},
		{node.Request{Kind: node.Seal, Loglet: 7}, node.Reply{Sealed: true}},
	} {
		checkAsk(t, n, c.r, c.want)
	}
}

// TestPlaceThatOnlyTrimHas: a request may have the place MaxSlots, though a slot may not: it is the store that refuses it.
func TestPlaceThatOnlyTrimHas(t *testing.T) {
	n := mustNew(t, 8)
	for _, kind := range []int{node.Write, node.Repair, node.Read} {
		checkAsk(t, n, node.Request{Kind: kind, Loglet: 1, Pos: api.MaxSlots}, node.Reply{E: api.ErrArg})
	}
	checkAsk(t, n, node.Request{Kind: node.Write, Loglet: 1, Pos: api.MaxSlots - 1}, node.Reply{Tail: api.MaxSlots})
	checkAsk(t, n, node.Request{Kind: node.Seal, Loglet: 1}, node.Reply{Tail: api.MaxSlots, Sealed: true})
	checkAsk(t, n, node.Request{Kind: node.Read, Loglet: 1, Pos: api.MaxSlots}, node.Reply{E: api.ErrArg, Tail: api.MaxSlots, Sealed: true})
	checkAsk(t, n, node.Request{Kind: node.Trim, Loglet: 2, Pos: api.MaxSlots}, node.Reply{Tail: api.MaxSlots})
}

func TestAsMuchDataAsMayBe(t *testing.T) {
	n := mustNew(t, api.MaxBlocks)
	for k, kind := range []int{node.Write, node.Repair} {
		data := filled(byte(7+k), maxData)
		checkAsk(t, n, node.Request{Kind: kind, Loglet: 1, Pos: k, Data: data}, node.Reply{Tail: k + 1})
		checkAsk(t, n, node.Request{Kind: node.Read, Loglet: 1, Pos: k}, node.Reply{Tail: k + 1, Data: data})
	}
}

func TestFull(t *testing.T) {
	n := mustNew(t, 2)
	checkAsk(t, n, node.Request{Kind: node.Write, Loglet: 1, Data: filled(1, 500)}, node.Reply{E: api.ErrFull})
	checkAll(t, n, "free 2\n")
	checkAsk(t, n, node.Request{Kind: node.Write, Loglet: 1, Data: filled(1, 400)}, node.Reply{Tail: 1})
	was := all(n)
	for _, r := range everyKind(2) {
		want := node.Reply{E: api.ErrFull}
		switch r.Kind {
		case node.Read:
			want.E = api.ErrNone
		case node.Look:
			want.E = api.OK
		}
		checkAsk(t, n, r, want)
	}
	checkAsk(t, n, node.Request{Kind: node.Seal, Loglet: 1}, node.Reply{E: api.ErrFull, Tail: 1})
	checkAsk(t, n, node.Request{Kind: node.Write, Loglet: 1, Data: filled(1, 400)}, node.Reply{Tail: 1})
	checkUp(t, n, true)
	checkAll(t, n, was)
}

func TestNoRequest(t *testing.T) {
	n := mustNew(t, 8)
	checkAsk(t, n, node.Request{Kind: node.Write, Data: []byte("z")}, node.Reply{Tail: 1})
	checkAsk(t, n, node.Request{Kind: node.Seal}, node.Reply{Tail: 1, Sealed: true})
	was := all(n)
	n.Cut(0)
	for _, b := range rubbish() {
		checkGetReply(t, n.Ask(b), node.Reply{E: api.ErrForm})
	}
	checkUp(t, n, true)
	checkAll(t, n, was)
}

// TestLooksAreNoOperations: the disk's power stays, though there is no operation left.
func TestLooksAreNoOperations(t *testing.T) {
	n := mustNew(t, 8)
	checkAsk(t, n, node.Request{Kind: node.Write, Loglet: 1, Data: []byte("a")}, node.Reply{Tail: 1})
	was := all(n)
	n.Cut(0)
	checkAsk(t, n, node.Request{Kind: node.Look, Loglet: 1}, node.Reply{Tail: 1})
	checkAsk(t, n, node.Request{Kind: node.Look, Loglet: 2}, node.Reply{})
	checkAsk(t, n, node.Request{Kind: node.Read, Loglet: 1}, node.Reply{Tail: 1, Data: []byte("a")})
	checkAsk(t, n, node.Request{Kind: node.Read, Loglet: 2}, node.Reply{E: api.ErrNone})
	checkAsk(t, n, node.Request{Kind: node.Trim, Loglet: 2}, node.Reply{})
	checkUp(t, n, true)
	checkAll(t, n, was)
}

// anyRequest draws one out of so few loglets, places and data that they often meet.
func anyRequest(r *rand.Rand) node.Request {
	q := node.Request{Kind: 1 + r.IntN(6), Loglet: []int{0, 1, lastLoglet}[r.IntN(3)]}
	if q.Kind != node.Seal && q.Kind != node.Look {
		q.Pos = []int{0, 1, 2, 3, 4, 5, 6, 7, 8, 9, api.MaxSlots - 1, api.MaxSlots}[r.IntN(12)]
	}
	if q.Kind == node.Trim {
		q.Pos /= 2
	}
	if q.Kind == node.Seal && r.IntN(8) > 0 {
		q.Kind, q.Pos = node.Look, 0
	}
	if q.Kind == node.Write || q.Kind == node.Repair {
		q.Data = filled(byte(r.IntN(2)), []int{0, 1, 300, 500}[r.IntN(4)])
	}
	return q
}

// onStore does what a request says, on a store of its own.
func onStore(s *store.Store, r node.Request) node.Reply {
	var p node.Reply
	switch r.Kind {
	case node.Write, node.Repair:
		p.E = s.Put(r.Loglet, r.Pos, r.Data, r.Kind == node.Repair)
	case node.Seal:
		p.E = s.Seal(r.Loglet)
	case node.Read:
		p.Data, p.E = s.Get(r.Loglet, r.Pos)
	case node.Trim:
		p.E = s.Trim(r.Loglet, r.Pos)
	}
	p.Tail, p.Sealed = s.Tail(r.Loglet), s.Sealed(r.Loglet)
	return p
}

// TestAnyRequests holds a node against a store.
func TestAnyRequests(t *testing.T) {
	r := rand.New(rand.NewPCG(50, 4))
	met := map[api.Errno]int{}
	for range 100 {
		blocks := 1 + r.IntN(40)
		n := mustNew(t, blocks)
		d, _ := disk.New(blocks)
		s, _ := store.Open(d)
		for range 60 {
			q := anyRequest(r)
			want := onStore(s, q)
			met[want.E]++
			checkAsk(t, n, q, want)
		}
	}
	for _, e := range []api.Errno{api.OK, api.ErrArg, api.ErrNone, api.ErrFull, api.ErrSeal, api.ErrTwice, api.ErrTrim} {
		if met[e] == 0 {
			t.Errorf("no request was answered %d", e)
		}
	}
}

// P507

// TestTwiceIsOnce asks the second time without an operation left.
func TestTwiceIsOnce(t *testing.T) {
	r := rand.New(rand.NewPCG(50, 7))
	for range 100 {
		n := mustNew(t, 1+r.IntN(40))
		for range 60 {
			q := anyRequest(r)
			first := ask(t, n, q)
			free := n.Store().Free()
			n.Cut(0)
			checkAsk(t, n, q, first)
			n.Cut(-1)
			if n.Store().Free() != free {
				t.Errorf("%d blocks are free, not %d", n.Store().Free(), free)
			}
		}
	}
}

// P508

func TestAnyBytes(t *testing.T) {
	r := rand.New(rand.NewPCG(50, 8))
	n := mustNew(t, 30)
	for range 20000 {
		b := requestBytes(anyRequest(r))
		switch r.IntN(4) {
		case 0:
			b = make([]byte, r.IntN(30))
			for i := range b {
				b[i] = byte(r.Uint32())
			}
		case 1:
			b = frame(byte(r.IntN(3)), b[5:5+r.IntN(len(b)-8)])
		case 2:
			b[r.IntN(len(b))] ^= 1 << r.IntN(8)
		}
		_, e := node.GetRequest(b)
		p, bad := node.GetReply(n.Ask(b))
		if bad != api.OK || (e == api.ErrForm) != (p.E == api.ErrForm) {
			t.Fatalf("Ask(%x): %d, no reply: %d", head(b), p.E, bad)
		}
		if e == api.ErrForm && !sameReply(p, node.Reply{E: api.ErrForm}) {
			t.Errorf("Ask(%x): %d %v, %d bytes", head(b), p.Tail, p.Sealed, len(p.Data))
		}
	}
	checkUp(t, n, true)
}

// TestMoreDataThanAReplyHas: whoever has the Store can put more than a request, and still a reply comes.
func TestMoreDataThanAReplyHas(t *testing.T) {
	n := mustNew(t, api.MaxBlocks)
	for pos, size := range []int{maxData, maxData + 1, api.MaxBytes} {
		if e := n.Store().Put(1, pos, filled(5, size), false); e != api.OK {
			t.Fatalf("Put of %d bytes: %d", size, e)
		}
	}
	checkAsk(t, n, node.Request{Kind: node.Read, Loglet: 1, Pos: 0}, node.Reply{Tail: 3, Data: filled(5, maxData)})
	checkAsk(t, n, node.Request{Kind: node.Read, Loglet: 1, Pos: 1}, node.Reply{E: api.ErrSize, Tail: 3})
	checkAsk(t, n, node.Request{Kind: node.Read, Loglet: 1, Pos: 2}, node.Reply{E: api.ErrSize, Tail: 3})
	checkUp(t, n, true)
}

// P501: what is handed in, what is answered

func TestAskKeepsNothing(t *testing.T) {
	n := mustNew(t, 8)
	told := string(requestBytes(node.Request{Kind: node.Write, Loglet: 1, Data: []byte("data")}))
	b := roomy(told)
	p := n.Ask(b)
	checkRoom(t, b, told)
	spoil(b)
	spoil(p)
	spoil(b)
	checkRoom(t, b, told)
	spoil(b)
	read := node.Request{Kind: node.Read, Loglet: 1}
	want := node.Reply{Tail: 1, Data: []byte("data")}
	spoil(n.Ask(requestBytes(read)))
	checkAsk(t, n, read, want)
	spoil(n.Ask([]byte("x")))
	checkGetReply(t, n.Ask([]byte("x")), node.Reply{E: api.ErrForm})
	n.Stop()
	checkStart(t, n, nil)
	checkAsk(t, n, read, want)
}

func TestStartKeepsNothing(t *testing.T) {
	n := mustNew(t, 8)
	n.Cut(2)
	checkNothing(t, n, requestBytes(node.Request{Kind: node.Write, Data: filled(1, 300)}))
	choices := []int{1, 1, 5, 6}
	checkStart(t, n, choices[:2])
	if !slices.Equal(choices, []int{1, 1, 5, 6}) {
		t.Errorf("the choices are %v now", choices)
	}
	clear(choices)
	checkAsk(t, n, node.Request{Kind: node.Read}, node.Reply{Tail: 1, Data: filled(1, 300)})
}
