package broker_test

import (
	"fmt"
	"maps"
	"math/rand/v2"
	"slices"
	"testing"

	"gazette/api"
	"gazette/broker"
	"gazette/ledger"
	"gazette/txn"
	"gazette/vlog"
)

// none is the tag of what is in no transaction.
const none = -1

// wish is what somebody wanted a row to be.
type wish struct{ part, producer, tag int }

// shard is what a story knows of a partition.
type shard struct {
	told  map[int]string // by offsets: what a Produce was answered OK for
	seen  map[int]string // that, and what was read
	where map[string]int // the same, by values
	given int            // Changes up to there may have been done
}

// attempt is an offset that was committed, or may have been.
type attempt struct {
	offset int
	is     bool
}

// story is three brokers, all who call them, and all that befalls them.
type story struct {
	t       *testing.T
	r       *rand.Rand
	link    *vlog.Link
	brokers [3]*broker.Broker
	last    int // the broker that was called last
	now     int
	serial  int
	full    bool // a disk or a chain
	counts  map[string]int

	wishes   map[string]wish
	shards   [2]shard
	senders  []*sender
	clients  []*client
	tried    map[int]int    // by tags: how often an End with Yes was sent
	ended    map[int]string // by tags: what an End that was answered OK said
	observed map[int]string // by tags: whether committed Fetches tell it

	gen      int
	commits  []attempt // the last one that is known to count, and all behind it
	promises map[int][]*promised
	offsets  map[int]int // by the group's partitions: what was told last
}

func newStory(t *testing.T, seed uint64, counts map[string]int) *story {
	s := &story{t: t, r: rand.New(rand.NewPCG(seed, 1709)), counts: counts}
	s.wishes, s.tried, s.ended, s.observed = map[string]wish{}, map[int]int{}, map[int]string{}, map[int]string{}
	s.promises, s.offsets = map[int][]*promised{}, map[int]int{}
	s.commits = []attempt{{}}
	s.link = mustLink(t, pick(s.r, 1, 2, 3, 3, 3, 4, 5), pick(s.r, 1, 2, 3, 3, 3, 4), 900)
	for i := range s.shards {
		s.shards[i] = shard{told: map[int]string{}, seen: map[int]string{}, where: map[string]int{}}
		s.senders = append(s.senders, &sender{story: s, producer: 50 + i, part: i})
	}
	for id := range s.brokers {
		s.renew(id)
	}
	for i, name := range []string{"x", "y"} {
		s.clients = append(s.clients, &client{story: s, name: name, place: 1 + i, epoch: -1, tag: none})
	}
	return s
}

// renew has a broker go, and another one with its id come.
func (s *story) renew(id int) { s.brokers[id] = mustBroker(s.t, s.link, id, 4, 20) }

func (s *story) count(what string, e api.Errno) {
	s.full = s.full || e == api.ErrFull
	s.counts[fmt.Sprint(what, " ", int(e))]++
}

// values are new ones, of which each is wanted once at most.
func (s *story) values(part, producer, tag int) []string {
	var list []string
	for range 1 + s.r.IntN(3) {
		s.serial++
		v := fmt.Sprint("v", s.serial)
		s.wishes[v] = wish{part, producer, tag}
		list = append(list, v)
	}
	return list
}

// tell keeps a batch that was answered OK.
func (s *story) tell(part, offset int, x api.Batch) {
	for i, r := range x.Records {
		s.shards[part].told[offset+i] = r.Value
		s.see(part, offset+i, r.Value)
	}
}

// see holds a row against all that was ever told and read.
func (s *story) see(part, offset int, value string) {
	p := s.shards[part]
	if was, is := p.seen[offset]; is && was != value {
		s.t.Errorf("the partition %d has %s at %d, where %s was", part, value, offset, was)
	}
	if was, is := p.where[value]; is && was != offset {
		s.t.Errorf("the partition %d has %s at %d and at %d", part, value, was, offset)
	}
	p.seen[offset], p.where[value] = value, offset
}

// checkRows looks at rows that were read: each is one that somebody wanted.
func (s *story) checkRows(part int, rows []ledger.Row) {
	offset := -1
	for _, r := range rows {
		w, is := s.wishes[r.Record.Value]
		if !is || w.part != part || w.producer != r.Producer || (w.tag != none) != r.InTxn || r.Record.Key != "k"+r.Record.Value {
			s.t.Errorf("the partition %d has %+v, and %v, %v was wanted", part, r, w, is)
		}
		if r.Offset <= offset {
			s.t.Errorf("%d behind %d", r.Offset, offset)
		}
		offset = r.Offset
		s.see(part, r.Offset, r.Record.Value)
	}
}

func offsetsOf(rows []ledger.Row) map[int]int {
	m := map[int]int{}
	for _, r := range rows {
		m[r.Offset]++
	}
	return m
}

// P1709

// checkLasts looks that all that was told is among all rows.
func (s *story) checkLasts(part int, all []ledger.Row) {
	there := offsetsOf(all)
	for offset, value := range s.shards[part].told {
		if offset >= s.shards[part].given && there[offset] == 0 {
			s.t.Errorf("the partition %d has no %s at %d any more", part, value, offset)
		}
	}
}

// P1711

// observe keeps whether a transaction counts: it does everywhere, or nowhere.
func (s *story) observe(tag int, counts bool) {
	got := fmt.Sprint(counts)
	if was, is := s.observed[tag]; is && was != got {
		s.t.Errorf("the transaction %d counts: %s, where it was %s", tag, got, was)
	}
	if was, is := s.ended[tag]; is && was != got {
		s.t.Errorf("the transaction %d counts: %s, and its End said %s", tag, got, was)
	}
	if counts && s.tried[tag] == 0 {
		s.t.Errorf("the transaction %d counts, and nobody wanted it", tag)
	}
	s.observed[tag] = got
}

// checkCommitted looks at committed rows, beside all rows of the same time.
func (s *story) checkCommitted(part, stable int, all, committed []ledger.Row) {
	there := offsetsOf(committed)
	if n := len(committed); n > 0 && committed[n-1].Offset >= stable {
		s.t.Errorf("the partition %d tells %d as committed; what is stable is %d", part, committed[n-1].Offset, stable)
	}
	for _, r := range all {
		tag := s.wishes[r.Record.Value].tag
		switch {
		case r.Offset >= stable:
		case tag != none:
			s.observe(tag, there[r.Offset] > 0)
		case there[r.Offset] == 0:
			s.t.Errorf("the partition %d does not tell %d, which is in no transaction", part, r.Offset)
		}
	}
}

// look reads all of a partition.
func (s *story) look(b *broker.Broker, part int) (done bool) {
	start, stable, end, e := b.Ends(part)
	s.count("ends", e)
	if e != api.OK {
		return false
	}
	all, next, e := b.Fetch(part, start, many, false)
	s.count("fetch", e)
	if e != api.OK {
		return false
	}
	if next != end || start > s.shards[part].given || stable > end {
		s.t.Errorf("Ends(%d): %d, %d, %d; next is %d, what may be given up %d", part, start, stable, end, next, s.shards[part].given)
	}
	s.checkRows(part, all)
	s.checkLasts(part, all)
	committed, next, e := b.Fetch(part, start, many, true)
	s.count("committed", e)
	if e != api.OK {
		return false
	}
	if next != stable {
		s.t.Errorf("Fetch(%d, %d, many, true): next is %d, what is stable is %d", part, start, next, stable)
	}
	s.checkRows(part, committed)
	s.checkCommitted(part, stable, all, committed)
	return true
}

// peek reads all of a partition that nobody may have given up, without asking anything ahead of it.
func (s *story) peek(b *broker.Broker, part int) {
	rows, _, e := b.Fetch(part, s.shards[part].given, many, false)
	s.count("peek", e)
	if e == api.OK {
		s.checkRows(part, rows)
		s.checkLasts(part, rows)
	} else if !passes(e) {
		s.t.Errorf("Fetch(%d, %d, many, false): %d", part, s.shards[part].given, e)
	}
}

func (s *story) change(b *broker.Broker, part int) {
	_, stable, _, e := b.Ends(part)
	if e != api.OK {
		return
	}
	kind, n := pick(s.r, ledger.Retain, ledger.Compact), s.r.IntN(stable+1)
	if kind == ledger.Retain {
		n /= 4
	}
	e = b.Change(part, kind, n)
	s.count(fmt.Sprint("change ", kind), e)
	if e != api.OK && !passes(e) {
		s.t.Errorf("Change(%d, %d, %d): %d, where %d was stable", part, kind, n, e, stable)
	}
	s.shards[part].given = max(s.shards[part].given, n)
}

// P1712

// meet has members come and go: the generation that was told never falls.
func (s *story) meet(b *broker.Broker) {
	x := pick(s.r, join("m", s.now), join("m", s.now), join("n", s.now), leave("n", s.now))
	gen, _, e := b.Group(0, x)
	s.count("meet", e)
	if e == api.OK {
		if gen < s.gen {
			s.t.Errorf("Group(0, %+v): the generation %d behind %d", x, gen, s.gen)
		}
		s.gen = gen
	}
}

// commit commits an offset of the group's partition 0.
func (s *story) commit(b *broker.Broker) {
	s.serial++
	_, _, e := b.Group(0, commit("m", s.gen, 0, s.serial))
	s.count("commit", e)
	x := attempt{s.serial, true}
	switch {
	case e == api.OK:
		s.commits = []attempt{x}
	case passes(e):
		s.commits = append(s.commits, x)
	case e != api.ErrGroup:
		s.t.Errorf("Commit: %d", e)
	}
}

func (s *story) offset(b *broker.Broker) (done bool) {
	n, is, e := b.Offset(0, 0)
	s.count("offset", e)
	if e != api.OK {
		return false
	}
	at := slices.Index(s.commits, attempt{n, is})
	if at < 0 {
		s.t.Fatalf("Offset(0, 0): %d, %v, not one of %v", n, is, s.commits)
	}
	s.commits = s.commits[at:]
	return true
}

// promisedOffset looks at an offset that comes by transactions: just such ones count whose End said Yes, the later ones behind the earlier ones.
func (s *story) promisedOffset(b *broker.Broker, place int) (done bool) {
	n, is, e := b.Offset(0, place)
	s.count("promised offset", e)
	if e != api.OK {
		return false
	}
	if n < s.offsets[place] {
		s.t.Errorf("Offset(0, %d): %d behind %d", place, n, s.offsets[place])
	}
	s.offsets[place] = n
	at := slices.IndexFunc(s.promises[place], func(x *promised) bool { return x.offset == n })
	switch {
	case !is && n == 0:
	case at < 0:
		s.t.Errorf("Offset(0, %d): %d, which nobody has promised", place, n)
	default:
		s.observe(s.promises[place][at].tag, true)
	}
	return true
}

// call makes a call of one of the brokers: often the one that was called last.
func (s *story) call() {
	if s.r.IntN(3) == 0 {
		s.last = s.r.IntN(len(s.brokers))
	}
	b := s.brokers[s.last]
	s.now++
	switch n := s.r.IntN(40); {
	case n < 10:
		s.senders[s.r.IntN(2)].step(b)
	case n < 12:
		part := s.r.IntN(2)
		x := nobodys(s.values(part, -1, none)...)
		offset, e := b.Produce(part, x)
		s.count("nobody", e)
		if e == api.OK {
			s.tell(part, offset, x)
		}
	case n < 24:
		s.clients[s.r.IntN(2)].step(b)
	case n < 25:
		_, _, e := b.Txn(over(s.now))
		s.count("over", e)
	case n < 26:
		_, e := b.Finish()
		s.count("finish", e)
	case n < 28:
		s.look(b, s.r.IntN(2))
	case n < 29:
		s.peek(b, s.r.IntN(2))
	case n < 32:
		s.meet(b)
	case n < 35:
		s.commit(b)
	case n < 38:
		s.offset(b)
		s.promisedOffset(b, 1+s.r.IntN(2))
	default:
		s.change(b, s.r.IntN(2))
	}
}

// twiceAtMost makes a call till it is done: when all is well that is the second time at the latest.
func (s *story) twiceAtMost(what string, call func(*broker.Broker) bool) {
	b := s.brokers[s.r.IntN(len(s.brokers))]
	if !call(b) && !call(b) {
		s.t.Errorf("%s is not done the second time, when all is well", what)
	}
}

// outcomes reads in the book's log what became of each transaction.
func (s *story) outcomes() map[int]string {
	book, outcome, present := txn.New(), map[int]string{}, map[int]int{}
	for _, b := range entriesOf(s.t, s.link, bookKey) {
		x, _ := txn.GetEvent(b)
		if status, _, _ := book.Status(x.Producer); x.Kind == txn.Add && status == txn.Empty {
			present[x.Producer] = x.Now
		}
		book.Apply(x)
		for producer, tag := range present {
			switch status, _, _ := book.Status(producer); status {
			case txn.Committing:
				outcome[tag] = "true"
			case txn.Aborting:
				outcome[tag] = "false"
			}
		}
	}
	return outcome
}

// end looks at all of it when all is well, and all brokers are new: one who has several logs that are others' by now loses them call by call.
func (s *story) end() {
	makeWell(s.link, s.r)
	for id := range s.brokers {
		s.renew(id)
	}
	s.twiceAtMost("Expire", func(b *broker.Broker) bool { _, _, e := b.Txn(over(api.MaxNumber - 1)); return e == api.OK })
	s.twiceAtMost("Finish", func(b *broker.Broker) bool { n, e := b.Finish(); return n == 0 && e == api.OK })
	for part := range s.shards {
		s.twiceAtMost("a look", func(b *broker.Broker) bool { return s.look(b, part) })
		s.twiceAtMost("Ends", func(b *broker.Broker) bool {
			_, stable, end, e := b.Ends(part)
			if e == api.OK && stable != end {
				s.t.Errorf("the partition %d is stable up to %d of %d, when all is well", part, stable, end)
			}
			return e == api.OK
		})
	}
	s.twiceAtMost("Offset", s.offset)
	for place := range s.promises {
		s.twiceAtMost("Offset", func(b *broker.Broker) bool { return s.promisedOffset(b, place) })
	}
	s.checkOutcomes(s.outcomes())
}

// checkOutcomes holds all that was ever seen of transactions against what the book's log says of them.
func (s *story) checkOutcomes(outcome map[int]string) {
	for tag, was := range s.observed {
		if outcome[tag] != was {
			s.t.Errorf("the transaction %d counts: %s, and the book says %q", tag, was, outcome[tag])
		}
		s.counts["counts "+was]++
	}
	for place, list := range s.promises {
		must := 0 // the last one that was told
		for _, x := range list {
			if outcome[x.tag] == "true" && x.told {
				must = x.offset
				s.counts["promised"]++
			}
		}
		if s.offsets[place] < must {
			s.t.Errorf("Offset(0, %d): %d, and %d was promised", place, s.offsets[place], must)
		}
	}
}

func (s *story) run() {
	changes := s.r.IntN(10)
	for range 140 {
		switch n := s.r.IntN(60); {
		case n < 2+changes:
			befall(s.link, s.r)
		case n < 13:
			s.renew(s.r.IntN(len(s.brokers)))
		case n < 14+changes/3:
			makeWell(s.link, s.r)
		default:
			s.call()
		}
	}
	if s.full {
		s.counts["full"]++
		return
	}
	s.end()
}

// P1709, P1710, P1711, P1712

// TestWhatWasToldLasts plays many stories: whatever befalls them, what was told lasts, each batch is there once, transactions count as a whole or not at all, and offsets are the last ones.
func TestWhatWasToldLasts(t *testing.T) {
	t.Parallel()
	counts := map[string]int{}
	for seed := range uint64(400) {
		s := newStory(t, seed, counts)
		s.run()
		if t.Failed() {
			t.Fatalf("the seed is %d", seed)
		}
	}
	for _, k := range []string{
		"send 0", "send 30", "send 33", "send 35", "again 0", "again 52", "again 33", "too late 50", "nobody 0", "nobody 33",
		"start 0", "start 33", "start 54", "add 0", "add 33", "add 50", "produce 0", "produce 33", "produce 50", "fenced 50", "promise 0", "promise 33",
		"end 0", "end 33", "over 0", "finish 0", "finish 33", "ends 0", "ends 33", "ends 35", "peek 0", "peek 33", "peek 35", "fetch 0", "committed 0", "change 2 0", "change 3 0",
		"meet 0", "commit 0", "commit 33", "offset 0", "offset 33", "promised offset 0", "counts true", "counts false", "promised",
	} {
		if counts[k] < 20 {
			t.Errorf("%s: only %d times: %v", k, counts[k], maps.Clone(counts))
		}
	}
	if testing.Verbose() {
		t.Log(counts)
	}
}
