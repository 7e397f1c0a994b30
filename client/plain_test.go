package client_test

import (
	"fmt"
	"maps"
	"math/rand/v2"
	"slices"
	"strings"
	"testing"

	"gazette/api"
	"gazette/batch"
	"gazette/broker"
	"gazette/client"
	"gazette/cluster"
	"gazette/group"
	"gazette/ledger"
	"gazette/txn"
)

// caller is what a Client and a plain one have in common.
type caller interface {
	Start(timeout int) api.Errno
	Send(part int, records []api.Record) (int, api.Errno)
	Retry(part int) (int, api.Errno)
	Begin() api.Errno
	End(yes bool) api.Errno
	Promise(g int, member string, gen, part, offset int) api.Errno
	Read(part, from, most int, committed bool) ([]ledger.Row, int, api.Errno)
	Pending(part int) bool
	Producer() (id, epoch int, ok bool)
}

// plain is a client by the chapter's words, one behind the other.
type plain struct {
	c           *cluster.Cluster
	name        string
	tries, turn int
	has         bool
	id, epoch   int
	numbers     map[int]int
	batches     map[int]*api.Batch
	in          bool
	places      []int
}

func newPlain(c *cluster.Cluster, name string, tries int) *plain {
	return &plain{c: c, name: name, tries: tries, numbers: map[int]int{}, batches: map[int]*api.Batch{}}
}

// attempt answers the last error, and whether it is one that passes.
func (p *plain) attempt(call func(b *broker.Broker) api.Errno) (e api.Errno, passes bool) {
	for n := 0; n < p.tries; n++ {
		var b *broker.Broker
		b, e = p.c.Broker(p.turn)
		if e == api.ErrNone {
			p.turn = 0
			continue
		}
		if e == api.ErrPower {
			p.turn++
			continue
		}
		e = call(b)
		switch e {
		case api.ErrPower, api.ErrSeal, api.ErrTwice, api.ErrLost, api.ErrStale, api.ErrOwner:
			p.turn++
		default:
			return e, false
		}
	}
	return e, true
}

func (p *plain) txn(x txn.Event) (id, epoch int, e api.Errno, passes bool) {
	e, passes = p.attempt(func(b *broker.Broker) (e api.Errno) {
		id, epoch, e = b.Txn(x)
		return e
	})
	return id, epoch, e, passes
}

func (p *plain) Start(timeout int) api.Errno {
	id, epoch, e, _ := p.txn(txn.Event{Kind: txn.Init, Name: p.name, Timeout: timeout, Now: p.c.Now()})
	if e == api.OK {
		p.has, p.id, p.epoch, p.in = true, id, epoch, false
		p.numbers, p.batches, p.places = map[int]int{}, map[int]*api.Batch{}, nil
	}
	return e
}

func (p *plain) Send(part int, records []api.Record) (int, api.Errno) {
	if !p.has || p.batches[part] != nil {
		return 0, api.ErrState
	}
	b := &api.Batch{Kind: api.Plain, Producer: p.id, Epoch: p.epoch, Seq: p.numbers[part], InTxn: p.in}
	b.Records = append(b.Records, records...)
	if e := batch.Check(*b); e != api.OK {
		return 0, e
	}
	p.batches[part] = b
	return p.Retry(part)
}

func (p *plain) Retry(part int) (int, api.Errno) {
	b := p.batches[part]
	if b == nil {
		return 0, api.ErrNone
	}
	if b.InTxn {
		if e := p.add(part); e != api.OK {
			return 0, e
		}
	}
	offset := 0
	e, passes := p.attempt(func(to *broker.Broker) (e api.Errno) {
		offset, e = to.Produce(part, *b)
		return e
	})
	if e == api.OK {
		p.numbers[part] = b.Seq + len(b.Records)
	}
	if !passes {
		p.batches[part] = nil
	}
	return offset, e
}

func (p *plain) add(place int) api.Errno {
	if slices.Contains(p.places, place) {
		return api.OK
	}
	_, _, e, _ := p.txn(txn.Event{Kind: txn.Add, Producer: p.id, Epoch: p.epoch, Place: place, Now: p.c.Now()})
	if e == api.OK {
		p.places = append(p.places, place)
	}
	return e
}

func (p *plain) waits() bool {
	for _, b := range p.batches {
		if b != nil {
			return true
		}
	}
	return false
}

func (p *plain) Begin() api.Errno {
	if !p.has || p.in || p.waits() {
		return api.ErrState
	}
	p.in, p.places = true, nil
	return api.OK
}

func (p *plain) End(yes bool) api.Errno {
	if !p.in || p.waits() {
		return api.ErrState
	}
	if len(p.places) == 0 {
		p.in = false
		return api.OK
	}
	_, _, e, passes := p.txn(txn.Event{Kind: txn.End, Producer: p.id, Epoch: p.epoch, Yes: yes})
	p.in = passes
	return e
}

func (p *plain) Promise(g int, member string, gen, part, offset int) api.Errno {
	if !p.in {
		return api.ErrState
	}
	if g < 0 || g > 99 {
		return api.ErrArg
	}
	if e := p.add(200 + g); e != api.OK {
		return e
	}
	e, _ := p.attempt(func(b *broker.Broker) api.Errno {
		_, _, e := b.Group(g, group.Event{Kind: group.Promise, Member: member, Gen: gen, Part: part, Offset: offset, Producer: p.id, Epoch: p.epoch})
		return e
	})
	return e
}

func (p *plain) Read(part, from, most int, committed bool) (rows []ledger.Row, next int, e api.Errno) {
	e, _ = p.attempt(func(b *broker.Broker) (e api.Errno) {
		rows, next, e = b.Fetch(part, from, most, committed)
		return e
	})
	return rows, next, e
}

func (p *plain) Pending(part int) bool { return p.batches[part] != nil }

func (p *plain) Producer() (id, epoch int, ok bool) { return p.id, p.epoch, p.has }

// deed draws something that befalls a cluster. Most numbers are of what there is.
func deed(r *rand.Rand, s cluster.Spec, onTheWay int) (string, func(*cluster.Cluster)) {
	kind := r.IntN(3)
	i := r.IntN([]int{s.Nodes, s.Acceptors, s.Brokers}[kind])
	k := r.IntN(onTheWay + 1)
	switch r.IntN(16) {
	case 0, 1, 2:
		rare := 1 + r.IntN(6)
		var l []int
		for range r.IntN(25) {
			l = append(l, pick(r, lost, unanswered, late, late, twice)*(r.IntN(rare+1)/rare))
		}
		return fmt.Sprint("luck ", l), func(c *cluster.Cluster) { c.Luck(l) }
	case 3:
		return fmt.Sprint("stop ", kind, i), func(c *cluster.Cluster) { c.Stop(kind, i) }
	case 4, 5, 6, 7:
		choices := []int{r.IntN(3), r.IntN(3), r.IntN(3)}[:r.IntN(4)]
		return fmt.Sprint("start ", kind, i, choices), func(c *cluster.Cluster) { c.Start(kind, i, choices) }
	case 8:
		n := r.IntN(8) - 1
		return fmt.Sprint("cut ", kind, i, n), func(c *cluster.Cluster) { c.Cut(kind, i, n) }
	case 9, 10, 11:
		return fmt.Sprint("deliver ", k), func(c *cluster.Cluster) { c.Deliver(k) }
	case 12:
		return fmt.Sprint("drop ", k), func(c *cluster.Cluster) { c.Drop(k) }
	case 13:
		return fmt.Sprint("double ", k), func(c *cluster.Cluster) { c.Double(k) }
	}
	n := pick(r, 0, 1, 1, 5, 5, 50)
	return fmt.Sprint("tick ", n), func(c *cluster.Cluster) { c.Tick(n) }
}

// asked draws a call of a broker that no client makes, or one of a cluster.
func asked(r *rand.Rand, s cluster.Spec) (string, func(*cluster.Cluster)) {
	i, part := r.IntN(s.Brokers), r.IntN(s.Parts)
	of := func(call func(*broker.Broker)) func(*cluster.Cluster) {
		return func(c *cluster.Cluster) {
			if b, e := c.Broker(i); e == api.OK {
				call(b)
			}
		}
	}
	switch r.IntN(6) {
	case 0, 1:
		return fmt.Sprint("ends ", i, part), of(func(b *broker.Broker) { b.Ends(part) })
	case 2:
		return fmt.Sprint("finish ", i), of(func(b *broker.Broker) { b.Finish() })
	case 3:
		x := join(pick(r, "m", "m", "n"))
		return fmt.Sprint("join ", i), of(func(b *broker.Broker) { b.Group(0, x) })
	case 4:
		return "well", func(c *cluster.Cluster) { c.Well() }
	}
	return "settle", func(c *cluster.Cluster) { c.Settle() }
}

// twins are two clusters that the same befalls: clients call the first one, plain ones the second one.
type twins struct {
	t       *testing.T
	r       *rand.Rand
	spec    cluster.Spec
	first   *cluster.Cluster
	second  *cluster.Cluster
	clients []*client.Client
	plains  []*plain
	serial  int
	counts  map[string]int
	told    []string
}

func newTwins(t *testing.T, seed uint64, counts map[string]int) *twins {
	r := rand.New(rand.NewPCG(seed, 1901))
	s := cluster.Spec{
		Nodes: pick(r, 1, 2, 3, 3, 3, 4), Acceptors: pick(r, 1, 2, 3, 3, 3), Brokers: pick(r, 1, 2, 2, 3, 4),
		Parts: 1 + r.IntN(3), Session: 10, Blocks: pick(r, 40, 500, 500, 500),
	}
	w := &twins{t: t, r: r, spec: s, first: mustCluster(t, s), second: mustCluster(t, s), counts: counts}
	for _, name := range []string{"x", "y", "x"} {
		tries := pick(r, 1, 2, 3, 4, 9, 100)
		w.clients = append(w.clients, mustClient(t, w.first, name, tries))
		w.plains = append(w.plains, newPlain(w.second, name, tries))
	}
	return w
}

// calling is a call of a client, as a function that tells what it answers, in which the last number is the error.
type calling func(caller) string

func start(timeout int) calling {
	return func(x caller) string { return fmt.Sprint("start ", x.Start(timeout)) }
}

func retry(part int) calling {
	return func(x caller) string {
		n, e := x.Retry(part)
		return fmt.Sprintf("retry %d %d %d", part, n, e)
	}
}

func begin(x caller) string { return fmt.Sprint("begin ", x.Begin()) }

func end(yes bool) calling {
	return func(x caller) string { return fmt.Sprint("end ", yes, " ", x.End(yes)) }
}

func (w *twins) send(part int) calling {
	l := w.records()
	return func(x caller) string {
		n, e := x.Send(part, l)
		return fmt.Sprintf("send %d %d %d", part, n, e)
	}
}

func (w *twins) promise(part int) calling {
	g, member, gen, offset := pick(w.r, 0, 0, 0, 0, 99, -1, 100), pick(w.r, "m", "m", "m", "n", ""), pick(w.r, 1, 1, 2), w.r.IntN(99)-1
	return func(x caller) string { return fmt.Sprint("promise ", x.Promise(g, member, gen, part, offset)) }
}

func (w *twins) read(part int) calling {
	from, most, committed := w.r.IntN(6)/3*w.r.IntN(9)-w.r.IntN(12)/11, pick(w.r, 1, 5, many), w.r.IntN(2) == 0
	return func(x caller) string {
		rows, next, e := x.Read(part, from, most, committed)
		return fmt.Sprintf("read %d %d %d %v %v %d %d", part, from, most, committed, rows, next, e)
	}
}

// call draws any call.
func (w *twins) call() calling {
	part := w.r.IntN(w.spec.Parts)
	if w.r.IntN(4) == 0 {
		part = pick(w.r, -1, w.spec.Parts, 100, 200, 1<<50)
	}
	switch w.r.IntN(7) {
	case 0:
		return start(pick(w.r, 10, 100, 3600, 0, 3601))
	case 1:
		return w.send(part)
	case 2:
		return retry(part)
	case 3:
		return begin
	case 4:
		return end(w.r.IntN(3) > 0)
	case 5:
		return w.promise(part)
	}
	return w.read(part)
}

// sensible draws a call that goes on with what the client p does.
func (w *twins) sensible(p *plain) calling {
	part := w.r.IntN(w.spec.Parts)
	switch n := w.r.IntN(20); {
	case !p.has || n == 0:
		return start(pick(w.r, 10, 100))
	case n == 1:
		return w.read(part)
	case p.waits() && n > 2:
		for i := -1; i < w.spec.Parts; i++ {
			if p.Pending(i) {
				part = i
			}
		}
		return retry(part)
	case !p.in && n < 12:
		return begin
	case p.in && n < 5:
		return end(w.r.IntN(3) > 0)
	case p.in && n < 9:
		return w.promise(part)
	}
	return w.send(part)
}

func (w *twins) records() []api.Record {
	if w.r.IntN(20) == 0 {
		return make([]api.Record, pick(w.r, 0, 65))
	}
	var l []api.Record
	for range 1 + w.r.IntN(3) {
		w.serial++
		l = append(l, records(fmt.Sprint("v", w.serial))...)
	}
	return l
}

// step has something befall both, or makes one call of a client in both.
func (w *twins) step() {
	var told string
	var do func(*cluster.Cluster)
	switch n := w.r.IntN(20); {
	case n < 5:
		told, do = deed(w.r, w.spec, w.first.Late())
	case n < 6:
		told, do = asked(w.r, w.spec)
	case n < 8:
		w.both(w.r.IntN(len(w.clients)), w.call())
		return
	default:
		i := w.r.IntN(len(w.clients))
		w.both(i, w.sensible(w.plains[i]))
		return
	}
	w.told = append(w.told, told)
	do(w.first)
	do(w.second)
}

func (w *twins) both(i int, call calling) {
	want, got := call(w.plains[i]), call(w.clients[i])
	w.told = append(w.told, fmt.Sprint(i, " ", want))
	if got != want {
		w.t.Errorf("the client %d: %s, not %s", i, got, want)
	}
	// The first word, and the error.
	word, _, _ := strings.Cut(want, " ")
	w.counts[word+want[strings.LastIndex(want, " "):]]++
}

// check looks at all that can be looked at.
func (w *twins) check() {
	for i, x := range w.clients {
		y := w.plains[i]
		for _, part := range []int{-1, 0, 1, 2, 3, 100, 200, 1 << 50} {
			if x.Pending(part) != y.Pending(part) {
				w.t.Errorf("the client %d: Pending(%d): %v", i, part, x.Pending(part))
			}
		}
		id, epoch, ok := x.Producer()
		if a, b, c := y.Producer(); id != a || epoch != b || ok != c {
			w.t.Errorf("the client %d: Producer: %d, %d, %v, not %d, %d, %v", i, id, epoch, ok, a, b, c)
		}
		if n := client.Turn(x); n != y.turn {
			w.t.Errorf("the client %d: the turn is %d, not %d", i, n, y.turn)
		}
	}
	if got, want := around(w.first, w.spec), around(w.second, w.spec); got != want {
		w.t.Errorf("there is %s, not %s", got, want)
	}
}

// around tells what can be seen of a cluster without a call of its brokers.
func around(c *cluster.Cluster, s cluster.Spec) string {
	told := fmt.Sprint(c.Late(), " ", c.Now())
	for kind, n := range []int{s.Nodes, s.Acceptors, s.Brokers} {
		for i := range n {
			told += fmt.Sprint(" ", c.Up(kind, i))
		}
	}
	for i := range s.Brokers {
		b, _ := c.Broker(i)
		for _, key := range []int{0, 1, 2, bookKey, firstGroup, firstGroup + 99} {
			told += fmt.Sprint(" ", b.Holds(key))
		}
	}
	return told
}

// all tells what the partitions and groups have, when all is well.
func (w *twins) all(c *cluster.Cluster) string {
	c.Well()
	left, e := c.Settle()
	told := fmt.Sprint(left, e)
	b, _ := c.Broker(0)
	for part := range w.spec.Parts {
		rows, next, e := b.Fetch(part, 0, many, false)
		told += fmt.Sprintln(rows, next, e)
		rows, next, e = b.Fetch(part, 0, many, true)
		told += fmt.Sprintln(rows, next, e)
		n, is, e := b.Offset(0, part)
		told += fmt.Sprintln(n, is, e)
	}
	return told
}

// P1901 to P1908

// TestAnyCallsByTheChaptersWords holds any calls of three clients, two of which have one name, against the words: what they answer, whom they ask, and what the cluster is behind each of them.
func TestAnyCallsByTheChaptersWords(t *testing.T) {
	t.Parallel()
	counts := map[string]int{}
	for seed := range uint64(300) {
		w := newTwins(t, seed, counts)
		for range 150 {
			w.step()
			w.check()
			if t.Failed() {
				t.Fatalf("the seed is %d: %q", seed, w.told)
			}
		}
		if got, want := w.all(w.first), w.all(w.second); got != want {
			t.Fatalf("the seed is %d: there is %s, not %s", seed, got, want)
		}
	}
	for _, k := range []string{
		"start 0", "start 1", "start 3", "start 8", "start 33", "start 54", "send 0", "send 1", "send 3", "send 6", "send 8", "send 33", "send 50", "send 54",
		"retry 0", "retry 1", "retry 3", "retry 8", "retry 33", "retry 50", "retry 54", "begin 0", "begin 54", "end 0", "end 3", "end 33", "end 50", "end 54",
		"promise 0", "promise 1", "promise 3", "promise 8", "promise 33", "promise 50", "promise 54", "promise 60", "read 0", "read 1", "read 3", "read 8", "read 11", "read 33",
	} {
		if counts[k] < 10 {
			t.Errorf("%s: only %d times: %v", k, counts[k], maps.Clone(counts))
		}
	}
	if testing.Verbose() {
		t.Log(counts)
	}
}
