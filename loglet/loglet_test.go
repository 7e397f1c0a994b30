package loglet_test

import (
	"bytes"
	"fmt"
	"math"
	"math/rand/v2"
	"slices"
	"testing"

	"gazette/api"
	"gazette/loglet"
	"gazette/net"
	"gazette/node"
)

// silent is what one says whose reply does not come.
const silent = api.Errno(-1)

// place is where the tests of one place look.
const place = 1

// voter is a node in some state, with the luck of the message to it, and what it says.
type voter struct {
	name string
	node func(t *testing.T) *node.Node
	luck int
	says api.Errno
	tail int // as its reply tells it
}

func fresh(t *testing.T) *node.Node { return mustNode(t, 8) }

// with answers a way to make a node that was asked these.
func with(blocks int, asked ...node.Request) func(t *testing.T) *node.Node {
	return func(t *testing.T) *node.Node {
		n := mustNode(t, blocks)
		for _, r := range asked {
			if r.Loglet == 0 {
				r.Loglet = id
			}
			p, e := node.GetReply(n.Ask(requestBytes(t, r)))
			if e != api.OK || p.E != api.OK {
				t.Fatalf("%v: %d, %d", r, p.E, e)
			}
		}
		return n
	}
}

func put(pos int, data string) node.Request {
	return node.Request{Kind: node.Repair, Pos: pos, Data: []byte(data)}
}

func seal() node.Request { return node.Request{Kind: node.Seal} }

func trim(pos int) node.Request { return node.Request{Kind: node.Trim, Pos: pos} }

// other takes a block for another loglet.
func other() node.Request { return node.Request{Kind: node.Write, Loglet: id + 1} }

func stopped(t *testing.T) *node.Node {
	n := fresh(t)
	n.Stop()
	return n
}

func falling(t *testing.T) *node.Node {
	n := fresh(t)
	n.Cut(0)
	return n
}

func none(*testing.T) *node.Node { return nil }

// silentVoters has those that say nothing, whatever is asked of them.
func silentVoters() []voter {
	return []voter{
		{name: "lost", node: fresh, luck: lost, says: silent},
		{name: "late", node: fresh, luck: late, says: silent},
		{name: "unanswered", node: fresh, luck: unanswered, says: silent},
		{name: "stopped", node: stopped, says: silent},
		{name: "nil", node: none, says: silent},
	}
}

// gather links voters to a net that has their luck, and tells what they say and who they are.
func gather(t *testing.T, voters []voter, pick []int) (l *loglet.Link, c loglet.Config, says []api.Errno, names []string) {
	l = &loglet.Link{Net: net.New()}
	for i, k := range pick {
		v := voters[k]
		l.Nodes = append(l.Nodes, v.node(t))
		l.Net.Luck([]int{v.luck})
		c.Nodes = append(c.Nodes, i)
		says = append(says, v.says)
		names = append(names, v.name)
	}
	c.ID = id
	return l, c, says, names
}

// judge tells what comes of what was said, with errors in their rank.
func judge(says []api.Errno, ranked ...api.Errno) api.Errno {
	ok := 0
	for _, e := range says {
		if e == api.OK {
			ok++
		}
	}
	if 2*ok > len(says) {
		return api.OK
	}
	for _, e := range ranked {
		if slices.Contains(says, e) {
			return e
		}
	}
	return api.ErrLost
}

// meetings calls see with all that up to three voters can be, and with many that more of them can be.
func meetings(t *testing.T, voters []voter, see func(l *loglet.Link, c loglet.Config, says []api.Errno, names []string, pick []int)) {
	meet := func(pick []int) {
		l, c, says, names := gather(t, voters, pick)
		see(l, c, says, names, pick)
		if t.Failed() {
			t.Fatalf("the nodes are %v", names)
		}
	}
	for n := 1; n <= 3; n++ {
		picks(n, len(voters), meet)
	}
	r := rand.New(rand.NewPCG(7, 7))
	for range 2000 {
		pick := make([]int, 4+r.IntN(api.MaxNodes-3))
		most := r.IntN(len(voters))
		for i := range pick {
			pick[i] = r.IntN(len(voters))
			if r.IntN(2) == 0 {
				pick[i] = most
			}
		}
		meet(pick)
	}
}

// P703

func TestCheck(t *testing.T) {
	for _, c := range []struct {
		config loglet.Config
		nodes  int
		want   api.Errno
	}{
		{of(0), 1, api.OK},
		{of(0), 0, api.ErrArg},
		{of(0), -1, api.ErrArg},
		{of(0), math.MinInt, api.ErrArg},
		{of(0), math.MaxInt, api.OK},
		{of(), 3, api.ErrArg},
		{of(), 0, api.ErrArg},
		{of(2, 0, 1), 3, api.OK},
		{of(2, 0, 1), 2, api.ErrArg},
		{of(3), 3, api.ErrArg},
		{of(0, 1, 3), 3, api.ErrArg},
		{of(-1), 3, api.ErrArg},
		{of(0, 1, -1), 3, api.ErrArg},
		{of(0, 0), 3, api.ErrArg},
		{of(0, 1, 2, 0), 3, api.ErrArg},
		{of(0, 1, 2, 1), 4, api.ErrArg},
		{of(0, 1, 2, 2), 4, api.ErrArg},
		{of(upTo(api.MaxNodes)...), api.MaxNodes, api.OK},
		{of(upTo(api.MaxNodes)...), api.MaxNodes - 1, api.ErrArg},
		{of(upTo(api.MaxNodes + 1)...), 100, api.ErrArg},
		{of(100, 7, 1000000), 1000001, api.OK},
		{of(math.MaxInt - 1), math.MaxInt, api.OK},
		{of(math.MaxInt), math.MaxInt, api.ErrArg},
		{loglet.Config{ID: -1, Nodes: []int{0}}, 1, api.ErrArg},
		{loglet.Config{ID: 0, Nodes: []int{0}}, 1, api.OK},
		{loglet.Config{ID: api.MaxNumber - 1, Nodes: []int{0}}, 1, api.OK},
		{loglet.Config{ID: api.MaxNumber, Nodes: []int{0}}, 1, api.ErrArg},
		{loglet.Config{ID: math.MinInt, Nodes: []int{0}}, 1, api.ErrArg},
		{loglet.Config{ID: math.MaxInt, Nodes: []int{0}}, 1, api.ErrArg},
	} {
		if e := loglet.Check(c.config, c.nodes); e != c.want {
			t.Errorf("Check(%v, %d): %d, not %d", c.config, c.nodes, e, c.want)
		}
	}
	for _, c := range badConfigs(12) {
		if e := loglet.Check(c, 12); e != api.ErrArg {
			t.Errorf("Check(%.60v, 12): %d, not ErrArg", fmt.Sprint(c), e)
		}
	}
}

func TestQuorum(t *testing.T) {
	for n, want := range []int{1, 1, 2, 2, 3, 3, 4, 4, 5, 5} {
		if got := loglet.Quorum(of(upTo(n)...)); got != want {
			t.Errorf("Quorum of %d: %d, not %d", n, got, want)
		}
		if got := loglet.Quorum(loglet.Config{ID: -1, Nodes: make([]int, n)}); got != want {
			t.Errorf("Quorum of %d that may not be: %d, not %d", n, got, want)
		}
	}
}

func TestCheckComesFirst(t *testing.T) {
	l := mustLink(t, 3, 8)
	l.Net.Luck([]int{late, late, late})
	was := world(l)
	for _, c := range badConfigs(3) {
		checkRefused(t, l, c)
	}
	checkRefused(t, l, of(0, 1, 2, 3))
	checkWorld(t, l, was)
}

func TestEdgesOfAnID(t *testing.T) {
	for _, edge := range []int{0, api.MaxNumber - 1} {
		l := mustLink(t, 3, 20)
		c := loglet.Config{ID: edge, Nodes: []int{2, 0}}
		checkAppend(t, l, c, 0, "a", api.OK)
		checkSeal(t, l, c, 1, api.OK)
		checkRepair(t, l, c, 0, 1, api.OK)
		checkRead(t, l, c, 0, "a", api.OK)
		checkTrim(t, l, c, 1, api.OK)
		for i, want := range [][]int{{edge}, nil, {edge}} {
			if got := l.Nodes[i].Store().Loglets(); !slices.Equal(got, want) {
				t.Errorf("the node %d has %v, not %v", i, got, want)
			}
		}
	}
}

// TestWhatIsSent looks at the messages of each call: to whom, what, and in which order.
func TestWhatIsSent(t *testing.T) {
	c := of(4, 0, 2)
	toAll := func(r node.Request) []sent {
		r.Loglet = id
		return []sent{{4, r}, {0, r}, {2, r}}
	}
	allLate := func() *loglet.Link {
		l := mustLink(t, 5, 20)
		l.Net.Luck(slices.Repeat([]int{late}, 3))
		return l
	}
	l := allLate()
	checkAppend(t, l, c, 7, "ab", api.ErrLost)
	checkLate(t, l, toAll(node.Request{Kind: node.Write, Pos: 7, Data: []byte("ab")})...)
	checkLeft(t, l, 0)
	l = allLate()
	checkSeal(t, l, c, 0, api.ErrLost)
	checkLate(t, l, toAll(node.Request{Kind: node.Seal})...)
	l = allLate()
	checkRead(t, l, c, 7, "", api.ErrLost)
	checkLate(t, l, toAll(node.Request{Kind: node.Read, Pos: 7})...)
	l = allLate()
	checkTrim(t, l, c, 7, api.ErrLost)
	checkLate(t, l, toAll(node.Request{Kind: node.Trim, Pos: 7})...)
	l = allLate()
	checkRepair(t, l, c, 7, 9, api.ErrLost)
	checkLate(t, l, toAll(node.Request{Kind: node.Read, Pos: 7})...)

	l = mustLink(t, 5, 20)
	l.Nodes[0].Store().Put(id, 7, []byte("ab"), false)
	l.Net.Luck([]int{late, comes, late, late, late, late})
	checkRepair(t, l, c, 7, 9, api.ErrLost)
	read := toAll(node.Request{Kind: node.Read, Pos: 7})
	repair := toAll(node.Request{Kind: node.Repair, Pos: 7, Data: []byte("ab")})
	checkLate(t, l, slices.Concat([]sent{read[0], read[2]}, repair)...)
	checkLeft(t, l, 0)
}

// P704

func writeVoters() []voter {
	return append(silentVoters(),
		voter{name: "OK", node: fresh},
		voter{name: "OK twice", node: fresh, luck: twice},
		voter{name: "there", node: with(8, put(place, "a"))},
		voter{name: "there and sealed", node: with(8, put(place, "a"), seal())},
		voter{name: "sealed", node: with(8, seal()), says: api.ErrSeal},
		voter{name: "other data", node: with(8, put(place, "b")), says: api.ErrTwice},
		voter{name: "other data, sealed", node: with(8, put(place, "b"), seal()), says: api.ErrTwice},
		voter{name: "trimmed", node: with(8, trim(place+1)), says: api.ErrTrim},
		voter{name: "full", node: with(1, other()), says: api.ErrFull},
		voter{name: "falling", node: falling, says: silent},
		voter{name: "sealed, unanswered", node: with(8, seal()), luck: unanswered, says: silent},
	)
}

func TestAppendOfAllThatIsSaid(t *testing.T) {
	seen := map[api.Errno]int{}
	meetings(t, writeVoters(), func(l *loglet.Link, c loglet.Config, says []api.Errno, names []string, _ []int) {
		want := judge(says, api.ErrSeal, api.ErrTwice, api.ErrTrim, api.ErrFull)
		seen[want]++
		checkAppend(t, l, c, place, "a", want)
		checkLeft(t, l, 0)
		for i, name := range names {
			if there := []string{"OK", "OK twice", "there", "there and sealed", "unanswered"}; slices.Contains(there, name) {
				checkSlot(t, l, i, place, "a", api.OK)
			}
		}
	})
	if len(seen) != 6 {
		t.Errorf("only these were seen: %v", seen)
	}
}

// TestRankOfAppend has two errors at a time, in both orders.
func TestRankOfAppend(t *testing.T) {
	ranked := []func(*testing.T) *node.Node{
		with(8, seal()),
		with(8, put(place, "b")),
		with(8, trim(place+1)),
		with(1, other()),
		none,
	}
	errors := []api.Errno{api.ErrSeal, api.ErrTwice, api.ErrTrim, api.ErrFull, api.ErrLost}
	picks(2, len(ranked), func(pick []int) {
		l := &loglet.Link{Net: net.New(), Nodes: []*node.Node{ranked[pick[0]](t), ranked[pick[1]](t)}}
		checkAppend(t, l, of(0, 1), place, "a", errors[min(pick[0], pick[1])])
	})
}

func TestEdgesOfAppend(t *testing.T) {
	l := mustLink(t, 3, 300)
	c := of(0, 1, 2)
	was := world(l)
	whole := string(bytes.Repeat([]byte{0, 255, 'x', 7}, maxData/4))
	for _, pos := range []int{math.MinInt, -api.MaxSlots, -1, api.MaxSlots, api.MaxSlots + 1, math.MaxInt} {
		checkAppend(t, l, c, pos, "a", api.ErrArg)
		checkAppend(t, l, c, pos, whole+"x", api.ErrArg)
	}
	checkAppend(t, l, c, 0, whole+"x", api.ErrSize)
	checkAppend(t, l, c, api.MaxSlots-1, string(make([]byte, api.MaxBytes)), api.ErrSize)
	checkAppend(t, l, c, 0, string(make([]byte, 1<<20)), api.ErrSize)
	checkWorld(t, l, was)
	checkAppend(t, l, c, 0, whole, api.OK)
	checkAppend(t, l, c, 1, "", api.OK)
	if e := loglet.Append(l, c, 2, nil); e != api.OK {
		t.Errorf("Append of nil: %d", e)
	}
	checkAppend(t, l, c, api.MaxSlots-1, "z", api.OK)
	checkAppend(t, l, c, 3, whole, api.ErrFull)
	for i := range l.Nodes {
		checkSlot(t, l, i, 0, whole, api.OK)
		checkSlot(t, l, i, 1, "", api.OK)
		checkSlot(t, l, i, 2, "", api.OK)
		checkSlot(t, l, i, api.MaxSlots-1, "z", api.OK)
		checkSlot(t, l, i, 3, "", api.ErrNone)
	}
	checkRead(t, l, c, 0, whole, api.OK)
	checkSeal(t, l, c, api.MaxSlots, api.OK)
}

// P705

func sealVoters() []voter {
	return append(silentVoters(),
		voter{name: "empty", node: fresh},
		voter{name: "tail 1", node: with(8, put(0, "a")), tail: 1},
		voter{name: "tail 3, sealed", node: with(8, put(2, "a"), seal()), luck: twice, tail: 3},
		voter{name: "trimmed", node: with(8, trim(2)), tail: 2},
		voter{name: "full, tail 9", node: with(1, put(8, "")), says: api.ErrFull},
		voter{name: "sealed, full", node: with(2, put(6, ""), seal()), tail: 7},
		voter{name: "unanswered, tail 9", node: with(8, put(8, "a")), luck: unanswered, says: silent},
		voter{name: "falling", node: falling, says: silent},
	)
}

func TestSealOfAllThatIsSaid(t *testing.T) {
	voters := sealVoters()
	seen := map[api.Errno]int{}
	meetings(t, voters, func(l *loglet.Link, c loglet.Config, says []api.Errno, names []string, pick []int) {
		want, tail := judge(says, api.ErrFull), 0
		seen[want]++
		for _, k := range pick {
			if want == api.OK && voters[k].says == api.OK {
				tail = max(tail, voters[k].tail)
			}
		}
		checkSeal(t, l, c, tail, want)
		checkLeft(t, l, 0)
		for i, name := range names {
			done := []string{"empty", "tail 1", "tail 3, sealed", "trimmed", "sealed, full", "unanswered", "unanswered, tail 9"}
			if got := l.Nodes[i].Store().Sealed(id); got != slices.Contains(done, name) {
				t.Errorf("the node %d is sealed: %v", i, got)
			}
		}
	})
	if len(seen) != 3 {
		t.Errorf("only these were seen: %v", seen)
	}
}

func TestSealIsOfOneLoglet(t *testing.T) {
	l := mustLink(t, 3, 20)
	checkAppend(t, l, loglet.Config{ID: id + 1, Nodes: []int{0, 1, 2}}, 4, "a", api.OK)
	checkSeal(t, l, of(0, 1, 2), 0, api.OK)
	checkSeal(t, l, of(0, 1, 2), 0, api.OK)
	checkAppend(t, l, loglet.Config{ID: id + 1, Nodes: []int{0, 1, 2}}, 5, "a", api.OK)
	checkAppend(t, l, of(0, 1, 2), 0, "a", api.ErrSeal)
}

// P706

// keeper is a node in some state, with the luck of a Read and a Repair of the place, and what it says to them.
type keeper struct {
	voter
	second       int
	data         string
	sayA, sayB   api.Errno // to a Repair with "a", with "b"
	keepA, keepB string    // what it has behind that
}

func keepers() []keeper {
	states := []keeper{
		{voter: voter{name: "a", node: with(8, put(place, "a"))}, data: "a", sayB: api.ErrTwice, keepA: "a", keepB: "a"},
		{voter: voter{name: "b", node: with(8, put(place, "b"), seal())}, data: "b", sayA: api.ErrTwice, keepA: "b", keepB: "b"},
		{voter: voter{name: "none", node: fresh, says: api.ErrNone}, keepA: "a", keepB: "b"},
		{voter: voter{name: "none, sealed", node: with(8, seal()), says: api.ErrNone}, keepA: "a", keepB: "b"},
		{voter: voter{name: "trimmed", node: with(8, trim(place+1)), says: api.ErrTrim}, sayA: api.ErrTrim, sayB: api.ErrTrim},
		{voter: voter{name: "full", node: with(1, other()), says: api.ErrNone}, sayA: api.ErrFull, sayB: api.ErrFull},
	}
	var all []keeper
	for _, k := range states {
		for _, luck := range [][2]int{{comes, twice}, {comes, lost}, {twice, unanswered}, {lost, comes}} {
			x := k
			x.name = fmt.Sprint(x.name, luck)
			x.luck, x.second = luck[0], luck[1]
			if x.luck == lost {
				x.says = silent
			}
			if x.second == lost || x.second == unanswered {
				x.sayA, x.sayB = silent, silent
			}
			if x.second == lost {
				x.keepA, x.keepB = x.data, x.data
			}
			all = append(all, x)
		}
	}
	return append(all, keeper{voter: voter{name: "stopped", node: stopped, says: silent}, sayA: silent, sayB: silent})
}

// plainRepair tells what comes of it, and, if a Repair is sent, with which data.
func plainRepair(chosen []keeper) (e api.Errno, sentData string) {
	ok, replied := 0, 0
	for _, k := range chosen {
		if k.says == api.ErrTrim {
			return api.OK, ""
		}
		if k.says == api.OK {
			ok++
		}
		if k.says != silent {
			replied++
		}
		if k.says == api.OK && sentData == "" {
			sentData = k.data
		}
	}
	switch {
	case 2*ok > len(chosen):
		return api.OK, ""
	case ok == 0 && replied == len(chosen):
		return api.ErrNone, ""
	case ok == 0:
		return api.ErrLost, ""
	}
	var says []api.Errno
	for _, k := range chosen {
		if sentData == "a" {
			says = append(says, k.sayA)
		} else {
			says = append(says, k.sayB)
		}
	}
	return judge(says, api.ErrTwice, api.ErrTrim, api.ErrFull), sentData
}

func (k keeper) kept(sentData string) string {
	switch sentData {
	case "a":
		return k.keepA
	case "b":
		return k.keepB
	}
	return k.data
}

func TestRepairOfAllThatIsSaid(t *testing.T) {
	all := keepers()
	seen := map[string]int{}
	meet := func(pick []int) {
		l := &loglet.Link{Net: net.New()}
		var chosen []keeper
		var second []int
		for _, k := range pick {
			chosen = append(chosen, all[k])
			l.Nodes = append(l.Nodes, all[k].node(t))
			l.Net.Luck([]int{all[k].luck})
			second = append(second, all[k].second)
		}
		l.Net.Luck(second)
		want, sentData := plainRepair(chosen)
		seen[fmt.Sprint(int(want), sentData)]++
		checkRepair(t, l, of(upTo(len(pick))...), place, place+1, want)
		if sentData == "" {
			checkLeft(t, l, len(pick))
		} else {
			checkLeft(t, l, 0)
		}
		for i, k := range chosen {
			got, _ := l.Nodes[i].Store().Get(id, place)
			if l.Nodes[i].Up() && string(got) != k.kept(sentData) {
				t.Errorf("the node %d has %q, not %q", i, got, k.kept(sentData))
			}
		}
		if t.Failed() {
			for _, k := range chosen {
				t.Log(k.name)
			}
			t.FailNow()
		}
	}
	for n := 1; n <= 3; n++ {
		picks(n, len(all), meet)
	}
	r := rand.New(rand.NewPCG(7, 8))
	for range 5000 {
		pick := make([]int, 4+r.IntN(api.MaxNodes-3))
		for i := range pick {
			pick[i] = r.IntN(len(all))
			if all[pick[i]].says == api.ErrTrim {
				pick[i] = r.IntN(len(all))
			}
		}
		meet(pick)
	}
	for _, want := range []string{"0", "0a", "0b", "3", "33", "33a", "31a", "31b", "32a", "7a"} {
		if seen[want] == 0 {
			t.Errorf("%q was not seen: %v", want, seen)
		}
	}
}

func TestEdgesOfRepair(t *testing.T) {
	l := mustLink(t, 3, 40)
	c := of(0, 1, 2)
	checkAppend(t, l, of(1), api.MaxSlots-1, "z", api.OK)
	l.Net.Luck([]int{late})
	was := world(l)
	for _, p := range [][2]int{{-1, 0}, {-1, -1}, {2, 1}, {0, -1}, {0, api.MaxSlots + 1}, {api.MaxSlots + 1, api.MaxSlots + 1},
		{math.MinInt, math.MaxInt}, {math.MaxInt, math.MinInt}, {0, math.MaxInt}, {math.MaxInt, math.MaxInt}, {api.MaxSlots, 0}} {
		checkRepair(t, l, c, p[0], p[1], api.ErrArg)
	}
	for _, p := range []int{0, 1, api.MaxSlots - 1, api.MaxSlots} {
		checkRepair(t, l, c, p, p, api.OK)
	}
	checkWorld(t, l, was)
	l.Net.Send(-1, nil)
	checkRepair(t, l, c, api.MaxSlots-1, api.MaxSlots, api.OK)
	for i := range l.Nodes {
		checkSlot(t, l, i, api.MaxSlots-1, "z", api.OK)
	}
	checkRepair(t, l, c, 0, api.MaxSlots, api.ErrNone)
	checkRepair(t, l, c, api.MaxSlots-2, api.MaxSlots, api.ErrNone)
}

// TestRepairGoesPlaceByPlace: it ends where a place can't be passed, and those ahead of it are repaired.
func TestRepairGoesPlaceByPlace(t *testing.T) {
	l := mustLink(t, 3, 40)
	c := of(0, 1, 2)
	for pos, at := range [][]int{{0, 1}, {2}, {0, 1, 2}, {1}, {}, {0}} {
		for _, i := range at {
			checkAppend(t, l, of(i), pos, fmt.Sprint("p", pos), api.OK)
		}
	}
	checkSeal(t, l, c, 6, api.OK)
	checkRepair(t, l, c, 0, 6, api.ErrNone)
	for i := range l.Nodes {
		checkSlot(t, l, i, 1, "p1", api.OK)
		checkSlot(t, l, i, 3, "p3", api.OK)
	}
	checkSlot(t, l, 2, 0, "", api.ErrNone)
	checkSlot(t, l, 1, 5, "", api.ErrNone)
	checkRepair(t, l, c, 5, 6, api.OK)
	checkSlot(t, l, 1, 5, "p5", api.OK)
	l.Nodes[0].Stop()
	checkRepair(t, l, c, 0, 4, api.OK)
	checkSlot(t, l, 2, 0, "p0", api.OK)
	checkRepair(t, l, c, 4, 6, api.ErrLost)
}

func TestRepairOfManyPlaces(t *testing.T) {
	l := mustLink(t, 3, api.MaxBlocks)
	c := of(0, 1, 2)
	for pos := range api.MaxSlots {
		checkAppend(t, l, of(pos%3), pos, "x", api.OK)
	}
	checkRepair(t, l, c, 0, api.MaxSlots, api.OK)
	for pos := range api.MaxSlots {
		checkRead(t, l, of(pos%2), pos, "x", api.OK)
	}
}

// P707

func readVoters() []voter {
	return append(silentVoters(),
		voter{name: "a", node: with(8, put(place, "a"))},
		voter{name: "b", node: with(8, put(place, "b"), seal()), luck: twice},
		voter{name: "none", node: fresh, says: api.ErrNone},
		voter{name: "other places", node: with(8, put(place-1, "x"), put(place+1, "y")), says: api.ErrNone},
		voter{name: "trimmed", node: with(8, put(place, "a"), trim(place+1)), says: api.ErrTrim},
		voter{name: "a, unanswered", node: with(8, put(place, "a")), luck: unanswered, says: silent},
	)
}

func TestReadOfAllThatIsSaid(t *testing.T) {
	seen := map[api.Errno]int{}
	meetings(t, readVoters(), func(l *loglet.Link, c loglet.Config, says []api.Errno, names []string, _ []int) {
		asked, data, want := len(says), "", api.ErrLost
		first := slices.Index(says, api.OK)
		switch {
		case first >= 0:
			asked, data, want = first+1, names[first], api.OK
		case slices.Contains(says, api.ErrTrim):
			want = api.ErrTrim
		case !slices.ContainsFunc(says, func(e api.Errno) bool { return e != api.ErrNone }):
			want = api.ErrNone
		}
		seen[want]++
		checkRead(t, l, c, place, data, want)
		checkLeft(t, l, len(says)-asked)
	})
	if len(seen) != 4 {
		t.Errorf("only these were seen: %v", seen)
	}
}

func TestEdgesOfRead(t *testing.T) {
	l := mustLink(t, 3, 300)
	c := of(0, 1, 2)
	l.Net.Luck([]int{late})
	was := world(l)
	for _, pos := range []int{math.MinInt, -api.MaxSlots, -1, api.MaxSlots, api.MaxSlots + 1, math.MaxInt} {
		checkRead(t, l, c, pos, "", api.ErrArg)
	}
	checkWorld(t, l, was)
	l.Net.Send(-1, nil)
	for _, pos := range []int{0, api.MaxSlots - 1} {
		checkRead(t, l, c, pos, "", api.ErrNone)
		checkAppend(t, l, c, pos, fmt.Sprint(pos), api.OK)
		checkRead(t, l, c, pos, fmt.Sprint(pos), api.OK)
	}
	checkTrim(t, l, c, 1, api.OK)
	checkRead(t, l, c, 0, "", api.ErrTrim)
}

func trimVoters() []voter {
	return append(silentVoters(),
		voter{name: "fresh", node: fresh},
		voter{name: "sealed", node: with(8, put(place, "a"), seal()), luck: twice},
		voter{name: "trimmed", node: with(8, trim(place))},
		voter{name: "trimmed further, full", node: with(1, trim(place+3))},
		voter{name: "full", node: with(1, put(place, "")), says: api.ErrFull},
		voter{name: "falling", node: falling, says: silent},
	)
}

func TestTrimOfAllThatIsSaid(t *testing.T) {
	seen := map[api.Errno]int{}
	meetings(t, trimVoters(), func(l *loglet.Link, c loglet.Config, says []api.Errno, names []string, _ []int) {
		want := judge(says, api.ErrFull)
		seen[want]++
		checkTrim(t, l, c, place+1, want)
		checkLeft(t, l, 0)
		for i, name := range names {
			point := map[string]int{"fresh": place + 1, "sealed": place + 1, "trimmed": place + 1, "unanswered": place + 1,
				"trimmed further, full": place + 3}[name]
			if got := l.Nodes[i].Store().Trimmed(id); got != point {
				t.Errorf("the node %d is trimmed up to %d, not %d", i, got, point)
			}
		}
	})
	if len(seen) != 3 {
		t.Errorf("only these were seen: %v", seen)
	}
}

func TestEdgesOfTrim(t *testing.T) {
	l := mustLink(t, 3, 20)
	c := of(0, 1, 2)
	l.Net.Luck([]int{late})
	was := world(l)
	for _, pos := range []int{math.MinInt, -1, api.MaxSlots + 1, math.MaxInt} {
		checkTrim(t, l, c, pos, api.ErrArg)
	}
	checkWorld(t, l, was)
	checkTrim(t, l, c, 0, api.OK)
	checkLate(t, l, sent{0, node.Request{Kind: node.Trim, Loglet: id}})
	checkAppend(t, l, c, 0, "a", api.OK)
	checkTrim(t, l, c, 0, api.OK)
	checkRead(t, l, c, 0, "a", api.OK)
	checkTrim(t, l, c, api.MaxSlots-1, api.OK)
	checkAppend(t, l, c, api.MaxSlots-1, "z", api.OK)
	checkTrim(t, l, c, api.MaxSlots, api.OK)
	checkRead(t, l, c, api.MaxSlots-1, "", api.ErrTrim)
	checkAppend(t, l, c, api.MaxSlots-1, "z", api.ErrTrim)
	checkRepair(t, l, c, 0, api.MaxSlots, api.OK)
	checkSeal(t, l, c, api.MaxSlots, api.OK)
}
