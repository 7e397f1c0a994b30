package client_test

import (
	"fmt"
	"slices"
	"strings"
	"testing"

	"gazette/api"
	"gazette/broker"
	"gazette/client"
	"gazette/cluster"
)

// passing are the errors of a broker's call that pass.
var passing = []api.Errno{api.ErrPower, api.ErrSeal, api.ErrTwice, api.ErrLost, api.ErrStale, api.ErrOwner}

// all are all errors that there are, and some numbers that are none.
func all() []api.Errno {
	var l []api.Errno
	for e := range api.Errno(100) {
		l = append(l, e)
	}
	return append(l, -1, -8, 1<<32+8, 1<<40)
}

// whoIsAsked tries a call that has these answers, one behind the other, and tells what it comes to.
func whoIsAsked(t *testing.T, c *cluster.Cluster, x *client.Client, answers ...api.Errno) string {
	t.Helper()
	var told []string
	n, e, passes := client.Try(x, func(b *broker.Broker) (int, api.Errno) {
		is := -1
		for i := range 16 {
			if other, e := c.Broker(i); e == api.OK && other == b {
				is = i
			}
		}
		told = append(told, fmt.Sprint(is))
		if len(told) > len(answers) {
			t.Fatalf("asked are %v, for %v", told, answers)
		}
		if e := answers[len(told)-1]; e != api.OK {
			return 0, e
		}
		return 70 + len(told), api.OK
	})
	return fmt.Sprintf("%s = %d %d %v", strings.Join(told, " "), n, e, passes)
}

func checkAsked(t *testing.T, c *cluster.Cluster, x *client.Client, want string, turn int, answers ...api.Errno) {
	t.Helper()
	if got := whoIsAsked(t, c, x, answers...); got != want {
		t.Errorf("a call that is answered %v: %s, not %s", answers, got, want)
	}
	checkTurn(t, x, turn)
}

// TestWhichErrorsPass: each error of a broker's call, one by one.
func TestWhichErrorsPass(t *testing.T) {
	c := box(t, 4)
	for _, e := range all() {
		x := mustClient(t, c, "x", 3)
		if slices.Contains(passing, e) {
			checkAsked(t, c, x, "0 1 2 = 0 "+fmt.Sprint(int(e))+" true", 3, e, e, e)
			checkAsked(t, c, x, "3 0 = 72 0 false", 0, e, api.OK)
		} else {
			n := 0
			if e == api.OK {
				n = 71
			}
			checkAsked(t, c, x, fmt.Sprintf("0 = %d %d false", n, e), 0, e)
		}
	}
}

// TestTheTurnGoesOn, and it stays where the call was answered, with OK or with an error that does not pass.
func TestTheTurnGoesOn(t *testing.T) {
	c := box(t, 4)
	x := mustClient(t, c, "x", 5)
	checkAsked(t, c, x, "0 = 71 0 false", 0, api.OK)
	checkAsked(t, c, x, "0 1 = 72 0 false", 1, api.ErrLost, api.OK)
	checkAsked(t, c, x, "1 = 71 0 false", 1, api.OK)
	checkAsked(t, c, x, "1 2 = 0 54 false", 2, api.ErrSeal, api.ErrState)
	checkAsked(t, c, x, "2 = 0 3 false", 2, api.ErrNone)
	checkAsked(t, c, x, "2 3 = 0 7 false", 3, api.ErrOwner, api.ErrFull)
	// There is none behind the last one: the turn comes back to 0, which takes a try.
	checkAsked(t, c, x, "3 0 1 2 = 74 0 false", 2, api.ErrLost, api.ErrPower, api.ErrTwice, api.OK)
	checkAsked(t, c, x, "2 3 0 1 = 0 34 true", 2, api.ErrLost, api.ErrPower, api.ErrTwice, api.ErrStale)
	checkAsked(t, c, x, "2 3 = 0 50 false", 3, api.ErrStale, api.ErrFence)
	checkAsked(t, c, x, "3 0 = 0 1 false", 0, api.ErrStale, api.ErrArg)
}

// TestBrokersThatAreNotUp are passed by, with a try each.
func TestBrokersThatAreNotUp(t *testing.T) {
	c := box(t, 4)
	x := mustClient(t, c, "x", 5)
	c.Stop(cluster.Server, 0)
	c.Stop(cluster.Server, 1)
	checkAsked(t, c, x, "2 = 71 0 false", 2, api.OK)
	c.Start(cluster.Server, 0, nil)
	checkAsked(t, c, x, "2 = 71 0 false", 2, api.OK)
	c.Stop(cluster.Server, 2)
	checkAsked(t, c, x, "3 0 = 72 0 false", 0, api.ErrSeal, api.OK)
	c.Stop(cluster.Server, 0)
	checkAsked(t, c, x, "3 = 0 3 true", 0, api.ErrSeal)
	c.Stop(cluster.Server, 3)
	checkAsked(t, c, x, " = 0 3 true", 0)
	for i := range 4 {
		c.Start(cluster.Server, i, nil)
	}
	c.Stop(cluster.Server, 0)
	checkAsked(t, c, x, "1 2 3 = 0 3 true", 0, api.ErrSeal, api.ErrSeal, api.ErrSeal)
}

// TestTriesThatRunOut: so many tries, and the last error, whoever told it.
func TestTriesThatRunOut(t *testing.T) {
	c := box(t, 2)
	c.Stop(cluster.Server, 1)
	for tries, want := range map[int]struct {
		asked string
		turn  int
	}{
		1: {"0 = 0 33 true", 1}, 2: {"0 = 0 8 true", 2}, 3: {"0 = 0 3 true", 0},
		4: {"0 0 = 0 30 true", 1}, 5: {"0 0 = 0 8 true", 2}, 6: {"0 0 = 0 3 true", 0}, 7: {"0 0 0 = 0 35 true", 1},
	} {
		x := mustClient(t, c, "x", tries)
		checkAsked(t, c, x, want.asked, want.turn, api.ErrLost, api.ErrSeal, api.ErrOwner)
	}
	for _, tries := range []int{1, 2, 3, 98, 99, 100} {
		d := box(t, 2)
		x := mustClient(t, d, "x", tries)
		d.Stop(cluster.Server, 0)
		d.Stop(cluster.Server, 1)
		want := []api.Errno{api.ErrNone, api.ErrPower, api.ErrPower}[tries%3]
		checkAsked(t, d, x, fmt.Sprint(" = 0 ", int(want), " true"), tries%3)
	}
}

// asking is a call of a client that is in a transaction, with the partition 0 and the group 0 among its places.
type asking struct {
	name string
	lose func(b *broker.Broker) // b takes the log away from whom the client asks
	do   func(x *client.Client) api.Errno
}

func send(part int) func(x *client.Client) api.Errno {
	return func(x *client.Client) api.Errno {
		_, e := x.Send(part, records("a"))
		return e
	}
}

func askings() []asking {
	book := func(b *broker.Broker) { b.Finish() }
	partition := func(b *broker.Broker) { b.Ends(0) }
	return []asking{
		{"Start", book, func(x *client.Client) api.Errno { return x.Start(10) }},
		{"Send", partition, send(0)},
		{"Send, which asks the book", book, send(0)},
		{"Send to another place, with an Add", book, send(1)},
		{"End", book, func(x *client.Client) api.Errno { return x.End(true) }},
		{"Promise", func(b *broker.Broker) { b.Offset(0, 0) }, func(x *client.Client) api.Errno { return x.Promise(0, "m", 1, 0, 5) }},
		{"Promise to another place, with an Add", book, func(x *client.Client) api.Errno { return x.Promise(1, "m", 1, 0, 5) }},
		{"Read", partition, func(x *client.Client) api.Errno { _, _, e := x.Read(0, 0, 9, true); return e }},
	}
}

// ready is a client of which all askings are OK. Its turn is 0.
func ready(t *testing.T, brokers, tries int) (*cluster.Cluster, *client.Client) {
	t.Helper()
	c := box(t, brokers)
	x := mustClient(t, c, "x", tries)
	mustJoin(t, mustBroker(t, c, 0), 0)
	mustJoin(t, mustBroker(t, c, 0), 1)
	check(t, "Start", x.Start(10), api.OK)
	check(t, "Begin", x.Begin(), api.OK)
	checkSend(t, x, 0, "first", 0, api.OK)
	check(t, "Promise", x.Promise(0, "m", 1, 0, 4), api.OK)
	checkTurn(t, x, 0)
	return c, x
}

// TestEachCallIsTried: all that ask a broker pass by those that are not up, and give up behind so many tries.
func TestEachCallIsTried(t *testing.T) {
	for _, call := range askings() {
		for down := range 4 {
			for tries := 1; tries < 7; tries++ {
				c, x := ready(t, 3, tries)
				for i := range down {
					c.Stop(cluster.Server, i)
				}
				want := api.OK
				switch {
				case down == 3 && tries%4 == 0: // behind the last broker
					want = api.ErrNone
				case tries <= down || down == 3:
					want = api.ErrPower
				}
				check(t, fmt.Sprintf("%s with %d brokers down and %d tries", call.name, down, tries), call.do(x), want)
				if want == api.OK {
					checkTurn(t, x, down)
				} else {
					checkTurn(t, x, tries%4)
				}
			}
		}
	}
}

// TestACallThatIsRefused: the broker 0 has lost the log that it knows; the broker 1 is asked next.
func TestACallThatIsRefused(t *testing.T) {
	for _, call := range askings() {
		for tries := 1; tries < 3; tries++ {
			c, x := ready(t, 2, tries)
			call.lose(mustBroker(t, c, 1))
			e := call.do(x)
			if (e == api.OK) != (tries == 2) || tries == 1 && e != api.ErrSeal && e != api.ErrOwner {
				t.Errorf("%s with %d tries: %d", call.name, tries, e)
			}
			checkTurn(t, x, 1)
		}
	}
}
