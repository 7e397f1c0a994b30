package client_test

import (
	"math"
	"strings"
	"testing"

	"gazette/api"
	"gazette/client"
	"gazette/cluster"
	"gazette/ledger"
)

// P1901

func TestOneThatNewDidNotMake(t *testing.T) {
	for _, x := range []*client.Client{nil, {}, new(client.Client)} {
		for _, n := range extremes {
			check(t, "Start", x.Start(n), api.ErrArg)
			for _, l := range [][]api.Record{nil, {}, records("a"), make([]api.Record, 65)} {
				if offset, e := x.Send(n, l); offset != 0 || e != api.ErrArg {
					t.Errorf("Send: %d, %d", offset, e)
				}
			}
			checkRetry(t, x, n, 0, api.ErrArg)
			for _, m := range extremes {
				check(t, "Promise", x.Promise(n, "m", 1, 0, m), api.ErrArg)
				rows, next, e := x.Read(n, m, 9, true)
				if len(rows) != 0 || next != 0 || e != api.ErrArg {
					t.Errorf("Read: %v, %d, %d", rows, next, e)
				}
			}
			checkIs(t, "Pending", x.Pending(n), false)
		}
		check(t, "Begin", x.Begin(), api.ErrArg)
		check(t, "End(true)", x.End(true), api.ErrArg)
		check(t, "End(false)", x.End(false), api.ErrArg)
		checkProducer(t, x, 0, 0, false)
	}
}

// TestAnyArguments: whatever is asked, in a transaction or not, with a producer or not, there is an answer.
func TestAnyArguments(t *testing.T) {
	for _, brokers := range []int{1, 2} {
		c := box(t, brokers)
		x := mustClient(t, c, "x", 3)
		for _, n := range extremes {
			for i, m := range extremes {
				x.Send(n, records("a"))
				x.Retry(m)
				x.Read(n, m, n, i%2 == 0)
				x.Read(0, n, m, i%2 == 0)
				x.Pending(n)
				if i%5 == 0 {
					x.Begin()
				}
				x.Promise(n, "m", m, n, m)
				x.Promise(0, strings.Repeat("m", i*8), n, m, n)
				x.Promise(i, "", n, n, m)
				if i%7 == 0 {
					x.End(i%2 == 0)
				}
			}
			x.Start(n)
			x.Start(10)
		}
		// What was open is aborted by a Start, and its markers are to be written ahead of another one.
		c.Settle()
		check(t, "Start", x.Start(10), api.OK)
		if _, e := x.Send(0, records("last")); e != api.OK {
			t.Errorf("Send: %d", e)
		}
		for _, l := range [][]api.Record{nil, {}, {{}}, {{Dead: true}}, make([]api.Record, 64), make([]api.Record, 65), make([]api.Record, 1<<20)} {
			_, e := x.Send(1, l)
			if want := len(l) >= 1 && len(l) <= 64; (e == api.OK) != want {
				t.Errorf("Send of %d records: %d", len(l), e)
			}
		}
	}
}

// TestNothingAndAnEmptyList mean the same.
func TestNothingAndAnEmptyList(t *testing.T) {
	for _, l := range [][]api.Record{nil, {}, make([]api.Record, 0, 8)} {
		_, x := started(t, 1)
		if n, e := x.Send(0, l); n != 0 || e != api.ErrSize {
			t.Errorf("Send: %d, %d", n, e)
		}
		checkPending(t, x)
	}
}

// TestWhatIsHandedInIsNotKept: it is changed behind each call, also that of a batch that is pending.
func TestWhatIsHandedInIsNotKept(t *testing.T) {
	c, x := started(t, 2)
	hand := func() (room, list []api.Record) {
		room = append(records("a", "b"), records("room", "behind")...)
		return room, room[:2]
	}
	hold := func(room []api.Record) {
		t.Helper()
		for i, v := range []string{"a", "b", "room", "behind"} {
			if room[i] != records(v)[0] {
				t.Errorf("what was handed in is changed: %v", room)
			}
		}
	}
	room, l := hand()
	if _, e := x.Send(0, l); e != api.OK {
		t.Errorf("Send: %d", e)
	}
	hold(room)
	spoil(l, api.Record{Key: "bad"})
	checkRows(t, x, 0, false, "0:a 1:b")

	// No broker is up, so that nothing of it is written till the Retry.
	c.Stop(cluster.Server, 0)
	c.Stop(cluster.Server, 1)
	room, l = hand()
	if _, e := x.Send(0, l); e != api.ErrPower {
		t.Errorf("Send: %d", e)
	}
	hold(room)
	spoil(l, api.Record{Key: "bad", Value: "bad"})
	check(t, "Well", c.Well(), api.OK)
	checkRetry(t, x, 0, 2, api.OK)
	checkRows(t, x, 0, false, "0:a 1:b 2:a 3:b")
}

// TestWhatIsAnsweredIsNew: rows can be changed, and the room behind them.
func TestWhatIsAnsweredIsNew(t *testing.T) {
	_, x := started(t, 1)
	checkSend(t, x, 0, "a", 0, api.OK)
	checkSend(t, x, 0, "b", 1, api.OK)
	for _, committed := range []bool{true, false} {
		first, _, _ := x.Read(0, 0, many, committed)
		second, _, _ := x.Read(0, 0, many, committed)
		spoil(first, ledger.Row{Offset: 77})
		if got := shown(second); got != "0:a 1:b" {
			t.Errorf("Read shares what it answered: %s", got)
		}
		checkRows(t, x, 0, committed, "0:a 1:b")
	}
}

// TestClientsOfOneCluster share nothing but the cluster.
func TestClientsOfOneCluster(t *testing.T) {
	c, x := started(t, 2)
	y := mustClient(t, c, "y", 1)
	checkProducer(t, y, 0, 0, false)
	check(t, "Start", y.Start(3600), api.OK)
	checkProducer(t, x, 0, 0, true)
	checkProducer(t, y, 1, 0, true)
	checkSend(t, x, 0, "a", 0, api.OK)
	checkSend(t, y, 0, "b", 1, api.OK)
	check(t, "Begin", x.Begin(), api.OK)
	checkInTxn(t, y, false)
	dark(c)
	checkSend(t, y, 1, "c", 0, api.ErrLost)
	checkPending(t, x)
	checkPending(t, y, 1)
	checkTurn(t, x, 0)
	checkTurn(t, y, 1)
	lit(c)
	check(t, "End", x.End(true), api.OK)
	checkRows(t, x, 0, true, "0:a 1:b")
	// Each of two clusters has its own.
	z := mustClient(t, box(t, 2), "x", 10)
	check(t, "Start", z.Start(10), api.OK)
	checkProducer(t, z, 0, 0, true)
	checkRows(t, z, 0, false, "")
}

// TestTheClusterIsWorkedWith: what befalls it behind New befalls the client.
func TestTheClusterIsWorkedWith(t *testing.T) {
	c, x := started(t, 1)
	c.Stop(cluster.Server, 0)
	checkSend(t, x, 0, "a", 0, api.ErrNone) // the tenth try is behind the last broker
	c.Start(cluster.Server, 0, nil)
	checkRetry(t, x, 0, 0, api.OK)
	n, e := mustBroker(t, c, 0).Produce(0, api.Batch{Kind: api.Plain, Producer: -1, Records: records("b")})
	if n != 1 || e != api.OK {
		t.Errorf("Produce: %d, %d", n, e)
	}
	checkRows(t, x, 0, false, "0:a 1:b")
}

// P1902

func TestNew(t *testing.T) {
	c := box(t, 1)
	for _, x := range []struct {
		c     *cluster.Cluster
		name  string
		tries int
		want  api.Errno
	}{
		{c, "x", 1, api.OK}, {c, "x", 2, api.OK}, {c, "x", 99, api.OK}, {c, "x", 100, api.OK},
		{c, "x", 0, api.ErrArg}, {c, "x", 101, api.ErrArg}, {c, "x", -1, api.ErrArg},
		{c, "x", math.MinInt, api.ErrArg}, {c, "x", math.MaxInt, api.ErrArg}, {c, "x", 1 << 32, api.ErrArg},
		{c, "", 5, api.ErrArg}, {c, strings.Repeat("x", 63), 5, api.OK}, {c, strings.Repeat("x", 64), 5, api.OK},
		{c, strings.Repeat("x", 65), 5, api.ErrArg}, {c, strings.Repeat("x", 1<<16), 5, api.ErrArg},
		{c, strings.Repeat("é", 32), 5, api.OK}, {c, strings.Repeat("é", 33), 5, api.ErrArg}, {c, "\x00\xff\n ", 5, api.OK},
		{nil, "x", 5, api.ErrArg}, {new(cluster.Cluster), "x", 5, api.ErrArg}, {&cluster.Cluster{}, "", 0, api.ErrArg},
		{nil, "", 0, api.ErrArg}, {c, "", 0, api.ErrArg},
	} {
		y, e := client.New(x.c, x.name, x.tries)
		if (y == nil) != (x.want != api.OK) || e != x.want {
			t.Errorf("New(.., %q, %d): %v, %d, not %d", x.name, x.tries, y, e, x.want)
		}
		if y != nil {
			check(t, "Start", y.Start(10), api.OK)
		}
	}
}

// TestNewWithoutPower: whatever is up, a cluster that was made is one.
func TestNewWithoutPower(t *testing.T) {
	c := box(t, 2)
	for kind, n := range []int{3, 3, 2} {
		for i := range n {
			c.Stop(kind, i)
		}
	}
	c.Luck([]int{late, late})
	x := mustClient(t, c, "x", 1)
	if c.Late() > 0 {
		t.Errorf("New sends messages")
	}
	check(t, "Start", x.Start(10), api.ErrPower)
	check(t, "Well", c.Well(), api.OK)
	check(t, "Start", x.Start(10), api.OK)
}

// TestANewOne has no producer, nothing is pending, and it is in no transaction; it can read.
func TestANewOne(t *testing.T) {
	c := box(t, 2)
	x := mustClient(t, c, "x", 5)
	checkProducer(t, x, 0, 0, false)
	checkPending(t, x)
	checkSend(t, x, 0, "a", 0, api.ErrState)
	checkRetry(t, x, 0, 0, api.ErrNone)
	check(t, "Begin", x.Begin(), api.ErrState)
	check(t, "End", x.End(true), api.ErrState)
	checkInTxn(t, x, false)
	checkTurn(t, x, 0)
	checkRows(t, x, 0, true, "")
	checkProducer(t, x, 0, 0, false)
	for _, key := range []int{0, bookKey} {
		checkIs(t, "Holds", mustBroker(t, c, 0).Holds(key), key == 0)
		checkIs(t, "Holds", mustBroker(t, c, 1).Holds(key), false)
	}
}

// TestNames: clients of one name are one producer.
func TestNames(t *testing.T) {
	c := box(t, 2)
	long := strings.Repeat("n", 64)
	for i, x := range []struct {
		name      string
		id, epoch int
	}{{"x", 0, 0}, {"y", 1, 0}, {"x", 0, 1}, {long, 2, 0}, {long[1:], 3, 0}, {long, 2, 1}, {"\x00", 4, 0}, {"x", 0, 2}} {
		y := mustClient(t, c, x.name, 1+i)
		check(t, "Start", y.Start(10), api.OK)
		checkProducer(t, y, x.id, x.epoch, true)
	}
}

// P1908

func TestRead(t *testing.T) {
	c, x := started(t, 2)
	checkSend(t, x, 0, "a", 0, api.OK)
	check(t, "Begin", x.Begin(), api.OK)
	checkSend(t, x, 0, "b", 1, api.OK)
	n, e := x.Send(0, records("c", "d"))
	if n != 2 || e != api.OK {
		t.Errorf("Send: %d, %d", n, e)
	}
	read := func(part, from, most int, committed bool, want string, next int, e api.Errno) {
		t.Helper()
		rows, to, f := x.Read(part, from, most, committed)
		if got := shown(rows); got != want || to != next || f != e {
			t.Errorf("Read(%d, %d, %d, %v): %s, %d, %d, not %s, %d, %d", part, from, most, committed, got, to, f, want, next, e)
		}
	}
	read(0, 0, 9, false, "0:a +1:b +2:c +3:d", 4, api.OK)
	read(0, 0, 9, true, "0:a", 1, api.OK)
	read(0, 1, 2, false, "+1:b +2:c", 3, api.OK)
	read(0, 0, 0, false, "", 0, api.OK)
	read(0, 4, 9, false, "", 4, api.OK)
	read(0, 5, 9, false, "", 0, api.ErrRange)
	read(0, -1, 9, false, "", 0, api.ErrArg)
	read(0, 0, -1, true, "", 0, api.ErrArg)
	read(1, 0, 9, true, "", 0, api.OK)
	read(-1, 0, 9, true, "", 0, api.ErrArg)
	read(2, 0, 9, true, "", 0, api.ErrArg)
	check(t, "End", x.End(true), api.OK)
	read(0, 1, 9, true, "+1:b +2:c +3:d", 5, api.OK)
	read(0, 4, 9, false, "", 5, api.OK)
	check(t, "Change", mustBroker(t, c, 0).Change(0, ledger.Retain, 2), api.OK)
	read(0, 1, 9, false, "", 0, api.ErrTrim)
	read(0, 2, 9, false, "+2:c +3:d", 5, api.OK)
	rows, _, _ := x.Read(0, 2, 1, true)
	if want := (ledger.Row{Offset: 2, Producer: 0, InTxn: true, Record: records("c")[0]}); len(rows) != 1 || rows[0] != want {
		t.Errorf("Read: %v, not %v", rows, want)
	}
	// It is tried: the broker 0 has lost the log, and the broker 1 has it.
	take(t, c, 1, 0)
	read(0, 2, 9, false, "+2:c +3:d", 5, api.OK)
	checkTurn(t, x, 1)
	dark(c)
	c.Stop(cluster.Server, 0)
	c.Start(cluster.Server, 0, nil)
	c.Stop(cluster.Server, 1)
	// Of ten tries from the broker 1 on the last one is the broker 1 again.
	read(0, 2, 9, false, "", 0, api.ErrPower)
	read(0, 2, 9, false, "", 0, api.ErrNone)
	read(0, 2, 9, false, "", 0, api.ErrLost)
}

// TestLooks: Pending and Producer ask nobody.
func TestLooks(t *testing.T) {
	c, x := started(t, 1)
	dark(c)
	checkSend(t, x, 1, "a", 0, api.ErrNone)
	for kind, n := range []int{3, 3, 1} {
		for i := range n {
			c.Stop(kind, i)
		}
	}
	for range 3 {
		checkPending(t, x, 1)
		checkProducer(t, x, 0, 0, true)
	}
	for _, part := range extremes {
		checkIs(t, "Pending", x.Pending(part), part == 1)
	}
	check(t, "Well", c.Well(), api.OK)
	checkRetry(t, x, 1, 0, api.OK)
	checkPending(t, x)
}
