package broker_test

import (
	"fmt"
	"maps"
	"math/rand/v2"
	"slices"
	"strings"
	"testing"

	"gazette/api"
	"gazette/batch"
	"gazette/broker"
	"gazette/group"
	"gazette/ledger"
	"gazette/txn"
	"gazette/vlog"
)

// server is what a Broker and a plain one have in common.
type server interface {
	Produce(part int, x api.Batch) (int, api.Errno)
	Fetch(part, from, most int, committed bool) ([]ledger.Row, int, api.Errno)
	Ends(part int) (start, stable, end int, e api.Errno)
	Change(part, kind, n int) api.Errno
	Txn(x txn.Event) (producer, epoch int, e api.Errno)
	Finish() (int, api.Errno)
	Group(g int, x group.Event) (gen int, share []int, e api.Errno)
	Offset(g, part int) (int, bool, api.Errno)
	Holds(key int) bool
}

// plain is a broker by the chapter's words, one behind the other.
type plain struct {
	link               *vlog.Link
	id, parts, session int
	logs               map[int]*vlog.Log
	ledgers            map[int]*ledger.Ledger
	book               *txn.Book
	groups             map[int]*group.Group
}

func newPlain(l *vlog.Link, id, parts, session int) *plain {
	return &plain{link: l, id: id, parts: parts, session: session, logs: map[int]*vlog.Log{}, ledgers: map[int]*ledger.Ledger{}, groups: map[int]*group.Group{}}
}

func (p *plain) Holds(key int) bool { return p.logs[key] != nil && !p.logs[key].Lost() }

// take applies the bytes of an entry to the state of a key.
func (p *plain) take(key int, b []byte) bool {
	switch {
	case key < 100:
		x, e := ledger.GetEntry(b)
		if e != api.OK {
			return false
		}
		_, e = p.ledgers[key].Apply(x)
		return e == api.OK
	case key == 100:
		x, e := txn.GetEvent(b)
		return e == api.OK && p.book.Apply(x) == api.OK
	}
	x, e := group.GetEvent(b)
	return e == api.OK && p.groups[key].Apply(x) == api.OK
}

func (p *plain) hold(key int) api.Errno {
	if p.Holds(key) {
		return api.OK
	}
	p.logs[key] = nil
	log, e := vlog.Open(p.link, key, p.id)
	if e != api.OK {
		return e
	}
	switch {
	case key < 100:
		p.ledgers[key] = ledger.New()
	case key == 100:
		p.book = txn.New()
	default:
		p.groups[key], _ = group.New(p.parts, p.session)
	}
	for addr := log.Trimmed(); addr < log.Next(); addr++ {
		b, e := log.Read(addr)
		if e != api.OK {
			return e
		}
		if !p.take(key, b) {
			return api.ErrForm
		}
	}
	p.logs[key] = log
	return api.OK
}

func (p *plain) sure(key int) api.Errno {
	e := p.logs[key].Mine()
	if e != api.OK {
		p.logs[key] = nil
	}
	return e
}

func (p *plain) holdAndSure(key int) api.Errno {
	if e := p.hold(key); e != api.OK {
		return e
	}
	return p.sure(key)
}

// write takes what Decide answered of an entry, and its bytes.
func (p *plain) write(key int, done bool, decided api.Errno, bytes []byte) api.Errno {
	if decided != api.OK || done {
		if e := p.sure(key); e != api.OK {
			return e
		}
		return decided
	}
	if _, e := p.logs[key].Append(bytes); e != api.OK {
		p.logs[key] = nil
		return e
	}
	if !p.take(key, bytes) {
		panic("what was decided is not taken")
	}
	return api.OK
}

func (p *plain) writeEntry(key int, x ledger.Entry) (int, api.Errno) {
	offset, done, e := p.ledgers[key].Decide(x)
	b, _ := ledger.PutEntry(x)
	if e := p.write(key, done, e, b); e != api.OK {
		return 0, e
	}
	return offset, api.OK
}

func (p *plain) writeTxn(x txn.Event) api.Errno {
	done, e := p.book.Decide(x)
	b, _ := txn.PutEvent(x)
	return p.write(100, done, e, b)
}

func (p *plain) writeGroup(key int, x group.Event) api.Errno {
	done, e := p.groups[key].Decide(x)
	b, _ := group.PutEvent(x)
	return p.write(key, done, e, b)
}

func (p *plain) Produce(part int, x api.Batch) (int, api.Errno) {
	if part < 0 || part >= p.parts || x.Kind != api.Plain {
		return 0, api.ErrArg
	}
	if e := batch.Check(x); e != api.OK {
		return 0, e
	}
	if x.InTxn {
		if e := p.holdAndSure(100); e != api.OK {
			return 0, e
		}
		status, epoch, is := p.book.Status(x.Producer)
		if !is {
			return 0, api.ErrNone
		}
		if epoch != x.Epoch {
			return 0, api.ErrFence
		}
		if status != txn.Open || !slices.Contains(p.book.Places(x.Producer), part) {
			return 0, api.ErrState
		}
	}
	if e := p.hold(part); e != api.OK {
		return 0, e
	}
	return p.writeEntry(part, ledger.Entry{Kind: ledger.Batches, Batch: x})
}

func (p *plain) Fetch(part, from, most int, committed bool) ([]ledger.Row, int, api.Errno) {
	if part < 0 || part >= p.parts {
		return nil, 0, api.ErrArg
	}
	if e := p.holdAndSure(part); e != api.OK {
		return nil, 0, e
	}
	return p.ledgers[part].Fetch(from, most, committed)
}

func (p *plain) Ends(part int) (start, stable, end int, e api.Errno) {
	if part < 0 || part >= p.parts {
		return 0, 0, 0, api.ErrArg
	}
	if e := p.holdAndSure(part); e != api.OK {
		return 0, 0, 0, e
	}
	l := p.ledgers[part]
	return l.Start(), l.Stable(), l.End(), api.OK
}

func (p *plain) Change(part, kind, n int) api.Errno {
	if part < 0 || part >= p.parts {
		return api.ErrArg
	}
	if e := p.hold(part); e != api.OK {
		return e
	}
	if kind != ledger.Retain && kind != ledger.Compact {
		return api.ErrArg
	}
	_, e := p.writeEntry(part, ledger.Entry{Kind: kind, N: n})
	return e
}

func (p *plain) Txn(x txn.Event) (producer, epoch int, e api.Errno) {
	if x.Kind == txn.Marked {
		return 0, 0, api.ErrArg
	}
	if e := p.hold(100); e != api.OK {
		return 0, 0, e
	}
	if e := p.writeTxn(x); e != api.OK {
		return 0, 0, e
	}
	if x.Kind == txn.Init {
		producer, epoch, _ = p.book.Find(x.Name)
	}
	if x.Kind == txn.End || x.Kind == txn.Expire {
		p.Finish()
	}
	return producer, epoch, api.OK
}

// mark writes the marker of a todo, where there is one to write.
func (p *plain) mark(x txn.Todo) api.Errno {
	switch {
	case x.Place < p.parts:
		if e := p.hold(x.Place); e != api.OK {
			return e
		}
		marker := api.Batch{Kind: api.Abort, Producer: x.Producer, Epoch: x.Epoch}
		if x.Yes {
			marker.Kind = api.Commit
		}
		_, e := p.writeEntry(x.Place, ledger.Entry{Kind: ledger.Batches, Batch: marker})
		return e
	case 200 <= x.Place && x.Place <= 299:
		if e := p.hold(x.Place); e != api.OK {
			return e
		}
		return p.writeGroup(x.Place, group.Event{Kind: group.Mark, Producer: x.Producer, Epoch: x.Epoch, Yes: x.Yes})
	}
	return api.OK
}

func (p *plain) Finish() (int, api.Errno) {
	if e := p.holdAndSure(100); e != api.OK {
		return 0, e
	}
	for len(p.book.Todo()) > 0 {
		x := p.book.Todo()[0]
		if e := p.mark(x); e != api.OK && e != api.ErrFence {
			return len(p.book.Todo()), e
		}
		if !p.Holds(100) {
			return len(p.book.Todo()), api.ErrOwner
		}
		if e := p.writeTxn(txn.Event{Kind: txn.Marked, Producer: x.Producer, Epoch: x.Epoch, Place: x.Place}); e != api.OK {
			return len(p.book.Todo()), e
		}
	}
	return 0, api.OK
}

func (p *plain) Group(g int, x group.Event) (gen int, share []int, e api.Errno) {
	if g < 0 || g > 99 || x.Kind == group.Mark {
		return 0, nil, api.ErrArg
	}
	if e := p.hold(200 + g); e != api.OK {
		return 0, nil, e
	}
	if e := p.writeGroup(200+g, x); e != api.OK {
		return 0, nil, e
	}
	return p.groups[200+g].Generation(), p.groups[200+g].Share(x.Member), api.OK
}

func (p *plain) Offset(g, part int) (int, bool, api.Errno) {
	if g < 0 || g > 99 {
		return 0, false, api.ErrArg
	}
	if e := p.holdAndSure(200 + g); e != api.OK {
		return 0, false, e
	}
	n, is := p.groups[200+g].Offset(part)
	return n, is, api.OK
}

// twins are two worlds in which the same befalls: one has Brokers, the other one plain ones.
type twins struct {
	t       *testing.T
	r       *rand.Rand
	links   [2]*vlog.Link
	brokers []*broker.Broker
	plains  []*plain
	parts   int
	session int
	last    int // the broker that was called last
	counts  map[string]int
}

func newTwins(t *testing.T, seed uint64, counts map[string]int) *twins {
	w := &twins{t: t, r: rand.New(rand.NewPCG(seed, 1702)), counts: counts}
	w.parts, w.session = 1+w.r.IntN(3), 1+w.r.IntN(20)
	nodes, acceptors := 1+w.r.IntN(4), 1+w.r.IntN(4)
	blocks := []int{15, 40, 600, 600, 600, 600}[seed%6]
	for i := range w.links {
		w.links[i] = mustLink(t, nodes, acceptors, blocks)
	}
	for id := range 3 {
		w.brokers = append(w.brokers, mustBroker(t, w.links[0], id, w.parts, w.session))
		w.plains = append(w.plains, newPlain(w.links[1], id, w.parts, w.session))
	}
	return w
}

// both lets the same happen in both worlds.
func (w *twins) both(happen func(*vlog.Link, *rand.Rand)) {
	seed := w.r.Uint64()
	for _, l := range w.links {
		happen(l, rand.New(rand.NewPCG(seed, 1)))
	}
}

// renew has a broker go, and another one with its id come.
func (w *twins) renew() {
	id := w.r.IntN(len(w.brokers))
	w.brokers[id] = mustBroker(w.t, w.links[0], id, w.parts, w.session)
	w.plains[id] = newPlain(w.links[1], id, w.parts, w.session)
}

// meddle has somebody else append what is no entry, or one that may not be taken, or give up the beginning of a log.
func meddle(l *vlog.Link, r *rand.Rand) {
	key := []int{0, 1, bookKey, 200}[r.IntN(4)]
	g, e := vlog.Open(l, key, 9)
	if e != api.OK {
		return
	}
	x, _ := ledger.PutEntry(ledger.Entry{Kind: ledger.Batches, Batch: of(r.IntN(2), 0, r.IntN(3), "m")})
	y, _ := txn.PutEvent(add(r.IntN(2), 0, 1, 0))
	z, _ := group.PutEvent(leave("a", 0))
	switch r.IntN(6) {
	case 0:
		g.Append([]byte("no entry"))
	case 1:
		g.Append(x)
	case 2:
		g.Append(y)
	case 3:
		g.Append(z)
	default:
		g.Trim(r.IntN(g.Next() + 1))
	}
}

// pick draws one of a list.
func pick[T any](r *rand.Rand, list ...T) T { return list[r.IntN(len(list))] }

// writer draws a producer and an epoch: mostly ones that a plain broker's book has.
func (w *twins) writer(p *plain) (producer, epoch int) {
	producer = w.r.IntN(3)
	if p.book != nil && w.r.IntN(8) > 0 {
		_, epoch, _ = p.book.Status(producer)
		return producer, epoch
	}
	return producer, w.r.IntN(3)
}

func (w *twins) batch(p *plain) api.Batch {
	producer, epoch := w.writer(p)
	x := of(producer, epoch, pick(w.r, 0, 0, 0, 1, 1, 2, 3), pick(w.r, []string{"v"}, []string{"v"}, []string{"v", "w"})...)
	x.InTxn = w.r.IntN(2) == 0
	switch w.r.IntN(20) {
	case 0:
		x = nobodys("u")
	case 1:
		x.Kind = pick(w.r, 0, api.Commit, api.Abort)
	case 2:
		x.Seq = pick(w.r, -1, api.MaxSeq)
	case 3:
		x.Records = pick(w.r, nil, []api.Record{{Dead: true, Value: "x"}}, []api.Record{{Key: "kv", Dead: true}})
	}
	return x
}

func (w *twins) txnEvent(p *plain) txn.Event {
	producer, epoch := w.writer(p)
	switch w.r.IntN(20) {
	case 0, 1, 2, 3:
		return start(pick(w.r, "x", "y"), 1+w.r.IntN(20), w.r.IntN(40))
	case 4, 5, 6, 7, 8, 9, 10, 11, 12:
		return add(producer, epoch, pick(w.r, 0, 0, 0, 1, 1, 2, 3, 99, 100, 199, 200, 200, 299, 300), w.r.IntN(40))
	case 13, 14, 15, 16:
		return end(producer, epoch, w.r.IntN(2) == 0)
	case 17:
		return over(w.r.IntN(80))
	case 18:
		return txn.Event{Kind: txn.Marked, Producer: producer, Epoch: epoch, Place: w.r.IntN(2)}
	}
	return pick(w.r, txn.Event{}, txn.Event{Kind: 6}, start("", 1, 0), over(-1))
}

func (w *twins) groupEvent(p *plain) group.Event {
	producer, epoch := w.writer(p)
	gen, member := w.r.IntN(4), pick(w.r, "a", "b", "c")
	if g := p.groups[200]; g != nil && w.r.IntN(10) > 0 {
		gen = g.Generation()
		if l := g.Members(); len(l) > 0 && w.r.IntN(3) > 0 {
			member = pick(w.r, l...)
		}
	}
	switch w.r.IntN(20) {
	case 0, 1, 2, 3, 4:
		return join(member, w.r.IntN(20))
	case 5:
		return leave(member, 0)
	case 6:
		return group.Event{Kind: group.Beat, Member: member, Gen: gen, Now: w.r.IntN(40)}
	case 7, 8, 9, 10:
		return commit(member, gen, w.r.IntN(4), w.r.IntN(100))
	case 11, 12, 13, 14, 15, 16:
		return promise(member, gen, w.r.IntN(4), w.r.IntN(100), producer, epoch)
	case 17:
		return silent(w.r.IntN(40))
	case 18:
		return group.Event{Kind: group.Mark, Producer: producer, Epoch: epoch}
	}
	return pick(w.r, group.Event{}, group.Event{Kind: 8}, join("", 0), silent(-1))
}

// call draws a call, as a function that makes it and tells what it answers.
func (w *twins) call(p *plain) func(server) (string, api.Errno) {
	part, g := w.r.IntN(w.parts)*w.r.IntN(2), pick(w.r, 0, 0, 0, 0, 0, 99)
	if w.r.IntN(25) == 0 {
		part, g = pick(w.r, -1, w.parts, 3), pick(w.r, -1, 100)
	}
	switch w.r.IntN(16) {
	case 0, 1, 2, 3:
		x := w.batch(p)
		return func(s server) (string, api.Errno) {
			n, e := s.Produce(part, x)
			return fmt.Sprint("produce ", n), e
		}
	case 4:
		from, most, committed := pick(w.r, -1, 0, 0, 0, 1, 1, 2, 3, 5, 9), pick(w.r, -1, 0, 1, 3, many, many, many), w.r.IntN(2) == 0
		return func(s server) (string, api.Errno) {
			rows, n, e := s.Fetch(part, from, most, committed)
			return fmt.Sprint("fetch ", rows, n), e
		}
	case 5:
		return func(s server) (string, api.Errno) {
			x, y, z, e := s.Ends(part)
			return fmt.Sprint("ends ", x, y, z), e
		}
	case 6:
		kind, n := pick(w.r, 0, 1, 2, 2, 2, 3, 3, 3, 4), pick(w.r, -1, 0, 1, 1, 1, 2, 2, 3, 9)
		return func(s server) (string, api.Errno) { return "change", s.Change(part, kind, n) }
	case 7, 8, 9, 10:
		x := w.txnEvent(p)
		return func(s server) (string, api.Errno) {
			producer, epoch, e := s.Txn(x)
			return fmt.Sprint("txn ", producer, epoch), e
		}
	case 11:
		return func(s server) (string, api.Errno) {
			n, e := s.Finish()
			return fmt.Sprint("finish ", n), e
		}
	case 12:
		return func(s server) (string, api.Errno) {
			n, is, e := s.Offset(g, part)
			return fmt.Sprint("offset ", n, is), e
		}
	}
	x := w.groupEvent(p)
	return func(s server) (string, api.Errno) {
		gen, share, e := s.Group(g, x)
		return fmt.Sprint("group ", gen, share), e
	}
}

func (w *twins) step() {
	if w.r.IntN(4) == 0 {
		w.last = w.r.IntN(len(w.brokers))
	}
	i := w.last
	make := w.call(w.plains[i])
	got, e := make(w.brokers[i])
	want, f := make(w.plains[i])
	w.counts[fmt.Sprintf("%.4s %d", want, f)]++
	if strings.HasPrefix(want, "finish ") && want != "finish 0" {
		w.counts["left"]++
	}
	if got != want || e != f {
		w.t.Fatalf("%s: %d, not %s: %d", got, e, want, f)
	}
	for key := range 302 {
		if w.brokers[i].Holds(key) != w.plains[i].Holds(key) {
			w.t.Fatalf("behind %s: %d: Holds(%d): %v", got, e, key, w.brokers[i].Holds(key))
		}
	}
}

// P1703 to P1708

// TestAnyCallsByTheChaptersWords holds any calls, whatever befalls, against the words: what is answered and held behind each of them, and what nets, nodes and acceptors know in the end.
func TestAnyCallsByTheChaptersWords(t *testing.T) {
	t.Parallel()
	counts := map[string]int{}
	for seed := range uint64(600) {
		w := newTwins(t, seed, counts)
		for range 100 {
			switch n := w.r.IntN(100); {
			case n < 12 && seed%4 != 0:
				w.both(befall)
			case n < 14:
				w.renew()
			case n < 15 && seed%3 == 0:
				w.both(meddle)
			case n < 20:
				w.both(makeWell)
			default:
				w.step()
			}
		}
		checkWorld(t, w.links[0], world(w.links[1]))
		if t.Failed() {
			t.Fatalf("the seed is %d", seed)
		}
	}
	for _, k := range []string{
		"prod 0", "prod 1", "prod 3", "prod 6", "prod 7", "prod 22", "prod 30", "prod 33", "prod 35", "prod 50", "prod 51", "prod 53", "prod 54",
		"fetc 0", "fetc 1", "fetc 7", "fetc 11", "fetc 22", "fetc 32", "fetc 33", "fetc 35", "ends 0", "ends 1", "ends 22", "ends 33", "ends 35",
		"chan 0", "chan 1", "chan 11", "chan 30", "chan 33", "chan 35", "txn  0", "txn  1", "txn  3", "txn  22", "txn  30", "txn  33", "txn  35", "txn  50", "txn  54",
		"fini 0", "fini 22", "fini 30", "fini 33", "fini 35", "grou 0", "grou 1", "grou 22", "grou 30", "grou 33", "grou 35", "grou 60",
		"offs 0", "offs 1", "offs 22", "offs 33", "offs 35", "left",
	} {
		if counts[k] < 5 {
			t.Errorf("%s: only %d times: %v", k, counts[k], maps.Clone(counts))
		}
	}
	if testing.Verbose() {
		t.Log(counts)
	}
}
