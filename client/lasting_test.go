package client_test

import (
	"fmt"
	"maps"
	"math/rand/v2"
	"slices"
	"testing"

	"gazette/api"
	"gazette/client"
	"gazette/cluster"
	"gazette/ledger"
)

// sending is a batch that somebody sent, and what became of it.
type sending struct {
	values  []string
	part    int
	session int          // of whoever sent it
	in      *transaction // nil: in none
	told    bool         // that it is there, at the offset
	offset  int
	last    api.Errno // while it is pending: what was answered last
}

// refused tells whether the Add ahead of it was: it stays pending till another Start.
func (y *sending) refused() bool { return y.in != nil && y.last == api.ErrFence }

// transaction is what somebody sent in one, and promised.
type transaction struct {
	asked    string        // what its End was asked, if it was
	ended    bool          // that End was OK
	promised map[int]offer // by offsets
}

// offer is a promise of a partition's offset.
type offer struct {
	part int
	told bool // it was answered OK
}

// story is a cluster, two clients, and all that befalls them between any two calls.
type story struct {
	t       *testing.T
	r       *rand.Rand
	spec    cluster.Spec
	cluster *cluster.Cluster
	users   []*user
	all     []*sending
	txns    []*transaction
	serial  int
	session int
	full    bool // a disk or a chain: nothing is promised from then on
	counts  map[string]int
	log     []string
	seen    []map[int]string // by partitions and offsets: what was read, and what was told
	where   map[string]int   // by values: partition and offset
}

func newStory(t *testing.T, seed uint64, counts map[string]int) *story {
	r := rand.New(rand.NewPCG(seed, 1909))
	s := &story{t: t, r: r, counts: counts, where: map[string]int{}, spec: cluster.Spec{
		Nodes: pick(r, 1, 2, 3, 3, 3, 4, 5), Acceptors: pick(r, 1, 2, 3, 3, 3, 4), Brokers: pick(r, 1, 2, 2, 3),
		Parts: 1 + r.IntN(2), Session: 3600, Blocks: 2500,
	}}
	s.cluster = mustCluster(t, s.spec)
	for range s.spec.Parts {
		s.seen = append(s.seen, map[int]string{})
	}
	for _, name := range [][]string{{"x", "x"}, {"x", "y"}}[r.IntN(2)] {
		x := mustClient(t, s.cluster, name, pick(r, 1, 2, 3, 5, 10))
		s.users = append(s.users, &user{story: s, x: x, name: name, pending: map[int]*sending{}})
	}
	return s
}

func (s *story) note(what string, e api.Errno) {
	s.full = s.full || e == api.ErrFull
	s.counts[fmt.Sprint(what, " ", int(e))]++
	s.log = append(s.log, fmt.Sprint(what, " ", int(e)))
}

func (s *story) befall() {
	told, do := deed(s.r, s.spec, s.cluster.Late())
	switch s.r.IntN(5) {
	case 0:
		told, do = asked(s.r, s.spec)
	case 1:
		// What comes next is written, and nobody hears of it; or the other way round.
		ahead, kind, times := s.r.IntN(7), pick(s.r, lost, unanswered, unanswered, late), 3+s.r.IntN(10)
		told = fmt.Sprint("luck ", ahead, kind, times)
		do = func(c *cluster.Cluster) { luck(c, comes, ahead); luck(c, kind, times) }
	}
	s.log = append(s.log, told)
	do(s.cluster)
}

// see holds a row against all that was ever told and read.
func (s *story) see(part, offset int, value string) {
	if was, is := s.seen[part][offset]; is && was != value {
		s.t.Errorf("the partition %d has %s at %d, where %s was", part, value, offset, was)
	}
	at := part<<32 + offset
	if was, is := s.where[value]; is && was != at {
		s.t.Errorf("%s stands at %d of the partition %d, and at %d of %d", value, offset, part, was&(1<<32-1), was>>32)
	}
	s.seen[part][offset], s.where[value] = value, at
}

func (s *story) seeRows(part int, rows []ledger.Row) {
	for _, r := range rows {
		s.see(part, r.Offset, r.Record.Value)
	}
}

func (s *story) run() {
	if b, e := s.cluster.Broker(0); e == api.OK {
		b.Group(0, join("m"))
	}
	for range 100 + s.r.IntN(60) {
		if s.full {
			break
		}
		switch n := s.r.IntN(20); {
		case n < 6:
			s.befall()
		case n < 7:
			s.cluster.Well()
		default:
			s.users[s.r.IntN(2)].step()
		}
	}
	s.cluster.Well()
	for _, u := range s.users {
		u.finish()
	}
	if s.full {
		s.counts["full"]++
		return
	}
	s.end()
}

// end looks at all of it, when all is well again and every transaction is decided.
func (s *story) end() {
	s.cluster.Tick(3600)
	check(s.t, "Well", s.cluster.Well(), api.OK)
	checkSettle(s.t, s.cluster)
	reader := mustClient(s.t, s.cluster, "reader", 10)
	for part := range s.spec.Parts {
		rows, _, e := reader.Read(part, 0, many, false)
		committed, next, f := reader.Read(part, 0, many, true)
		if e != api.OK || f != api.OK {
			s.t.Errorf("Read(%d): %d, %d", part, e, f)
		}
		s.checkOnce(part, rows)
		s.checkStable(part, next)
		s.checkWhole(part, rows, committed)
	}
	s.checkAllOrNothing(reader)
}

// P1909

// checkOnce looks that each batch that was told stands where it was told, once, and that those of a session stand in the order in which they were sent.
func (s *story) checkOnce(part int, rows []ledger.Row) {
	s.seeRows(part, rows)
	at := map[string][]int{}
	for _, r := range rows {
		at[r.Record.Value] = append(at[r.Record.Value], r.Offset)
	}
	last := map[int]int{} // by sessions
	for _, y := range s.all {
		if y.part != part {
			continue
		}
		for i, v := range y.values {
			if len(at[v]) > 1 || y.told && !slices.Equal(at[v], []int{y.offset + i}) || !y.told && len(at[v]) != len(at[y.values[0]]) {
				s.t.Errorf("the partition %d has %s at %v; it was told: %v, %d", part, v, at[v], y.told, y.offset+i)
			}
		}
		if first := at[y.values[0]]; len(first) > 0 {
			if was, is := last[y.session]; is && first[0] <= was {
				s.t.Errorf("the partition %d has %s at %d, behind %d", part, y.values[0], first[0], was)
			}
			last[y.session] = first[0]
			s.counts[fmt.Sprint("there, and told: ", y.told)]++
		} else {
			s.counts["not there"]++
		}
		delete(at, y.values[0])
		for _, v := range y.values {
			delete(at, v)
		}
	}
	if len(at) > 0 {
		s.t.Errorf("the partition %d has %v, which nobody has sent", part, at)
	}
}

// checkStable looks that nothing is open any more.
func (s *story) checkStable(part, next int) {
	_, stable, end, e := mustBroker(s.t, s.cluster, 0).Ends(part)
	if stable != end || next != end || e != api.OK {
		s.t.Errorf("Ends(%d): %d, %d, %d; next is %d", part, stable, end, e, next)
	}
}

// P1911

// checkWhole looks that all that is in no transaction is committed.
func (s *story) checkWhole(part int, rows, committed []ledger.Row) {
	counted := map[int]bool{}
	for _, r := range committed {
		counted[r.Offset] = true
	}
	for _, r := range rows {
		if !r.InTxn && !counted[r.Offset] {
			s.t.Errorf("the partition %d does not tell %d as committed", part, r.Offset)
		}
	}
}

// checkAllOrNothing looks that of each transaction all counts, or nothing; and that it is as its End said.
func (s *story) checkAllOrNothing(reader *client.Client) {
	counted := map[string]bool{}
	for part := range s.spec.Parts {
		committed, _, _ := reader.Read(part, 0, many, true)
		for _, r := range committed {
			counted[r.Record.Value] = true
		}
	}
	outcome := map[*transaction]bool{}
	for _, y := range s.all {
		if y.in == nil {
			continue
		}
		counts := counted[y.values[0]]
		for _, v := range y.values {
			if counted[v] != counts || counts && !y.told {
				s.t.Errorf("of %v, which were told: %v, %s counts: %v", y.values, y.told, v, counted[v])
			}
		}
		if was, is := outcome[y.in]; is && y.told && was != counts {
			s.t.Errorf("of a transaction %v count: %v, and others do: %v", y.values, counts, was)
		}
		if y.told {
			outcome[y.in] = counts
		}
	}
	for x, counts := range outcome {
		s.counts[fmt.Sprintf("asked %q, OK: %v, counts: %v", x.asked, x.ended, counts)]++
		if counts && x.asked != "true" || x.ended && counts != (x.asked == "true") {
			s.t.Errorf("a transaction counts: %v; its End was asked %q, OK: %v", counts, x.asked, x.ended)
		}
	}
	for part := range s.spec.Parts {
		s.checkPromised(part, outcome)
	}
}

// checkPromised looks that the offset that is told was promised in a transaction that counts, and that there is one, if some was.
func (s *story) checkPromised(part int, outcome map[*transaction]bool) {
	n, is, e := mustBroker(s.t, s.cluster, 0).Offset(0, part)
	if e != api.OK {
		s.t.Errorf("Offset: %d", e)
	}
	promised := false
	for _, x := range s.txns {
		counts, known := outcome[x]
		if !known && x.ended {
			counts, known = x.asked == "true", true
		}
		if o, has := x.promised[n]; has {
			promised = promised || o.part == part
			if known && !counts || x.asked != "true" {
				s.t.Errorf("Offset(0, %d): %d, which was promised in a transaction that does not count", part, n)
			}
		}
		for _, o := range x.promised {
			if o.part == part && o.told && counts && !is {
				s.t.Errorf("Offset(0, %d): none, and one was promised", part)
			}
		}
	}
	if is != promised {
		s.t.Errorf("Offset(0, %d): %d, %v, which was promised: %v", part, n, is, promised)
	}
	s.counts[fmt.Sprint("an offset: ", is)]++
}

// P1909, P1910, P1911

// TestStories: whatever befalls the cluster between any two calls of two clients, with one name or with unlike ones.
func TestStories(t *testing.T) {
	t.Parallel()
	counts := map[string]int{}
	for seed := range uint64(400) {
		s := newStory(t, seed, counts)
		s.run()
		if t.Failed() {
			t.Fatalf("the seed is %d: %q", seed, s.log)
		}
	}
	for _, k := range []string{
		"start 0", "start 3", "start 33", "start 54", "send 0", "send 3", "send 33", "send 50", "send 54", "retry 0", "retry 3", "retry 33",
		"send in a transaction 0", "send in a transaction 3", "send in a transaction 33", "send in a transaction 50", "send in a transaction 54",
		"retry in a transaction 0", "retry in a transaction 8", "retry in a transaction 33", "retry in a transaction 50", "retry in a transaction 54",
		"end true 0", "end true 3", "end true 33", "end true 50", "end false 0", "end false 33", "end false 50", "promise 0", "promise 33", "promise 50",
		"read 0", "read 33", "fenced send", "fenced end", "there, and told: true", "there, and told: false", "not there", "an offset: true",
		`asked "", OK: false, counts: false`, `asked "false", OK: true, counts: false`, `asked "false", OK: false, counts: false`,
		`asked "true", OK: true, counts: true`, `asked "true", OK: false, counts: false`,
	} {
		if counts[k] < 20 {
			t.Errorf("%s: only %d times: %v", k, counts[k], maps.Clone(counts))
		}
	}
	if k := `asked "true", OK: false, counts: true`; counts[k] == 0 {
		t.Errorf("%s: never", k)
	}
	if counts["full"] > 40 {
		t.Errorf("%d stories are full", counts["full"])
	}
	if testing.Verbose() {
		t.Log(counts)
	}
}
