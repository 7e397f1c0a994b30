package net_test

import (
	"bytes"
	"math"
	"math/rand/v2"
	"slices"
	"strings"
	"testing"

	"gazette/net"
)

const toBeLate = 3

// sent is a message, as the tests know it.
type sent struct {
	to   int
	text string
}

// outcome is what Send answers.
type outcome struct {
	times int
	reply bool
}

func mustNew(t *testing.T) *net.Net {
	t.Helper()
	n := net.New()
	if n == nil || !n.Made() {
		t.Fatal("New has made none")
	}
	return n
}

func checkSend(t *testing.T, n *net.Net, m sent, want outcome) {
	t.Helper()
	if times, reply := n.Send(m.to, []byte(m.text)); times != want.times || reply != want.reply {
		t.Errorf("Send(%d, %d bytes): %d, %v, not %v", m.to, len(m.text), times, reply, want)
	}
}

func checkIs(t *testing.T, call string, k, to int, b []byte, ok bool, want sent) {
	t.Helper()
	if to != want.to || string(b) != want.text || !ok {
		t.Errorf("%s(%d): %d, %.20q, %v, not %d, %.20q", call, k, to, b, ok, want.to, want.text)
	}
}

func checkMessage(t *testing.T, n *net.Net, k int, want sent) {
	t.Helper()
	to, b, ok := n.Message(k)
	checkIs(t, "Message", k, to, b, ok, want)
}

func checkTake(t *testing.T, n *net.Net, k int, want sent) {
	t.Helper()
	to, b, ok := n.Take(k)
	checkIs(t, "Take", k, to, b, ok, want)
}

func checkDouble(t *testing.T, n *net.Net, k int, want bool) {
	t.Helper()
	if ok := n.Double(k); ok != want {
		t.Errorf("Double(%d): %v, not %v", k, ok, want)
	}
}

func checkNone(t *testing.T, n *net.Net, k int) {
	t.Helper()
	if to, b, ok := n.Message(k); to != 0 || len(b) != 0 || ok {
		t.Errorf("Message(%d): %d, %q, %v, and there is none", k, to, b, ok)
	}
	if to, b, ok := n.Take(k); to != 0 || len(b) != 0 || ok {
		t.Errorf("Take(%d): %d, %q, %v, and there is none", k, to, b, ok)
	}
	checkDouble(t, n, k, false)
}

func checkLeft(t *testing.T, n *net.Net, want int) {
	t.Helper()
	if n.Left() != want {
		t.Errorf("Left: %d, not %d", n.Left(), want)
	}
}

// checkLate looks at all late ones, and at the places beside them.
func checkLate(t *testing.T, n *net.Net, want ...sent) {
	t.Helper()
	if n.Late() != len(want) {
		t.Fatalf("Late: %d, not %d", n.Late(), len(want))
	}
	for k, m := range want {
		checkMessage(t, n, k, m)
	}
	for _, k := range []int{math.MinInt, -len(want), -1, len(want), len(want) + 1, math.MaxInt} {
		checkNone(t, n, k)
	}
	if n.Late() != len(want) {
		t.Fatalf("Late: %d behind looks, not %d", n.Late(), len(want))
	}
}

// withLate answers a net on which just these are late.
func withLate(t *testing.T, messages ...sent) *net.Net {
	t.Helper()
	n := mustNew(t)
	n.Luck(slices.Repeat([]int{toBeLate}, len(messages)))
	for _, m := range messages {
		checkSend(t, n, m, outcome{})
	}
	return n
}

func five() []sent {
	return []sent{{7, "a"}, {-7, "bb"}, {7, "a"}, {0, ""}, {2, "ccc"}}
}

// P601

func TestANetThatNewDidNotMake(t *testing.T) {
	for _, n := range []*net.Net{nil, {}, new(net.Net)} {
		for range 2 {
			if n.Made() {
				t.Error("Made: true")
			}
			n.Luck(nil)
			n.Luck([]int{0, 3, 3, 4, 3})
			checkLeft(t, n, 0)
			for range 3 {
				checkSend(t, n, sent{1, "a"}, outcome{})
				checkSend(t, n, sent{}, outcome{})
			}
			if n.Late() != 0 {
				t.Errorf("Late: %d", n.Late())
			}
			for _, k := range []int{math.MinInt, -1, 0, 1, math.MaxInt} {
				checkNone(t, n, k)
			}
		}
	}
}

func TestNetsAreApart(t *testing.T) {
	a, b := mustNew(t), mustNew(t)
	a.Luck([]int{3, 3, 1})
	b.Luck([]int{4})
	checkLeft(t, a, 3)
	checkLeft(t, b, 1)
	checkSend(t, a, sent{1, "a"}, outcome{})
	checkLate(t, a, sent{1, "a"})
	checkLate(t, b)
	checkSend(t, b, sent{2, "b"}, outcome{2, true})
	checkSend(t, b, sent{2, "b"}, outcome{1, true})
	checkLeft(t, a, 2)
	b.Luck([]int{3})
	checkSend(t, b, sent{3, "c"}, outcome{})
	checkDouble(t, b, 0, true)
	checkLate(t, a, sent{1, "a"})
	checkTake(t, b, 0, sent{3, "c"})
	checkSend(t, a, sent{4, "d"}, outcome{})
	checkTake(t, a, 0, sent{1, "a"})
	checkLate(t, a, sent{4, "d"})
	checkLate(t, b, sent{3, "c"})
	checkLeft(t, a, 1)
	checkLeft(t, b, 0)
}

func TestLuckIsNotKept(t *testing.T) {
	room := []int{0, 4, 2, 1, 3, 3}
	was := slices.Clone(room)
	n := mustNew(t)
	n.Luck(room[:2])
	n.Luck(room[2:3])
	if !slices.Equal(room, was) {
		t.Error("Luck has changed what was handed in, or the room behind it")
	}
	for i := range room {
		room[i] = 1
	}
	for _, want := range []outcome{{1, true}, {2, true}, {1, false}} {
		checkSend(t, n, sent{1, "a"}, want)
	}
	for _, x := range room {
		if x != 1 {
			t.Error("Send has changed what was handed in to Luck")
		}
	}
	checkLeft(t, n, 0)
}

// TestBytesAreNotKept sends each way a message can go.
func TestBytesAreNotKept(t *testing.T) {
	n := mustNew(t)
	n.Luck([]int{0, 1, 2, 3, 4, 3})
	room := []byte("abcdef")
	for range 6 {
		n.Send(1, room[:3])
	}
	if string(room) != "abcdef" {
		t.Errorf("Send has changed what was handed in, or the room behind it: %q", room)
	}
	copy(room, "uvwxyz")
	checkLate(t, n, sent{1, "abc"}, sent{1, "abc"})
	n.Luck([]int{3})
	n.Send(2, room[:3])
	clear(room)
	checkLate(t, n, sent{1, "abc"}, sent{1, "abc"}, sent{2, "uvw"})
}

// spoil writes over b and the room behind it.
func spoil(b []byte) {
	b = b[:cap(b)]
	for i := range b {
		b[i] = 170
	}
}

func TestWhatIsAnsweredIsNewMemory(t *testing.T) {
	for _, text := range []string{"a", "abc", strings.Repeat("x", 100), ""} {
		m := sent{4, text}
		n := withLate(t, m, m)
		checkDouble(t, n, 0, true)
		checkDouble(t, n, 2, true)
		_, first, _ := n.Message(0)
		_, second, _ := n.Message(0)
		_, doubled, _ := n.Message(2)
		spoil(first)
		if string(second) != text || string(doubled) != text {
			t.Errorf("an answer has changed with another one: %q, %q", second, doubled)
		}
		checkLate(t, n, m, m, m, m)
		_, taken, _ := n.Take(0)
		spoil(taken)
		if string(second) != text || string(doubled) != text {
			t.Errorf("an answer has changed with one that was taken: %q, %q", second, doubled)
		}
		checkLate(t, n, m, m, m)
		_, taken, _ = n.Take(1)
		spoil(doubled)
		if string(taken) != text {
			t.Errorf("what was taken has changed with another answer: %q", taken)
		}
		checkLate(t, n, m, m)
	}
}

// TestAnAnswerStaysAsItIs: what is done behind Message and Take does not show in what they answered.
func TestAnAnswerStaysAsItIs(t *testing.T) {
	n := withLate(t, five()...)
	_, looked, _ := n.Message(1)
	_, taken, _ := n.Take(1)
	for range 20 {
		n.Luck([]int{3})
		n.Send(9, []byte("zz"))
		n.Double(0)
		n.Take(0)
	}
	if string(looked) != "bb" || string(taken) != "bb" {
		t.Errorf("an answer has changed: %q, %q", looked, taken)
	}
}

// P602

func TestNew(t *testing.T) {
	n := mustNew(t)
	checkLeft(t, n, 0)
	checkLate(t, n)
	if net.New() == n {
		t.Error("New has answered one twice")
	}
}

func TestMadeStays(t *testing.T) {
	n := withLate(t, five()...)
	for range five() {
		n.Take(0)
	}
	if !n.Made() {
		t.Error("Made: false")
	}
}

func TestLuckWaits(t *testing.T) {
	n := mustNew(t)
	left := 0
	for _, l := range [][]int{nil, {}, {1}, {2, 0, 4}, nil, {math.MaxInt, math.MinInt}, make([]int, 1000)} {
		n.Luck(l)
		left += len(l)
		checkLeft(t, n, left)
	}
	for left > 0 {
		n.Send(1, nil)
		left--
		checkLeft(t, n, left)
	}
	for range 3 {
		n.Send(1, nil)
		checkLeft(t, n, 0)
	}
}

// TestLuckWaitsInItsOrder lays luck while some waits, and when none waits any more.
func TestLuckWaitsInItsOrder(t *testing.T) {
	n := mustNew(t)
	n.Luck([]int{1, 2})
	n.Luck([]int{4})
	checkSend(t, n, sent{}, outcome{0, false})
	n.Luck([]int{0, 1})
	checkLeft(t, n, 4)
	for _, want := range []outcome{{1, false}, {2, true}, {1, true}, {0, false}, {1, true}, {1, true}} {
		checkSend(t, n, sent{}, want)
	}
	n.Luck([]int{2})
	checkLeft(t, n, 1)
	checkSend(t, n, sent{}, outcome{1, false})
	checkSend(t, n, sent{}, outcome{1, true})
	checkLeft(t, n, 0)
}

func TestJustSendTakesLuck(t *testing.T) {
	n := withLate(t, five()...)
	n.Luck([]int{1, 2})
	n.Made()
	n.Late()
	n.Message(0)
	n.Take(0)
	n.Double(0)
	n.Take(9)
	n.Left()
	checkLeft(t, n, 2)
	checkSend(t, n, sent{}, outcome{0, false})
	checkSend(t, n, sent{}, outcome{1, false})
}

// P603

func TestWhatANumberSays(t *testing.T) {
	m := sent{3, "ab"}
	cases := []struct {
		number int
		want   outcome
		late   bool
	}{
		{0, outcome{1, true}, false},
		{1, outcome{0, false}, false},
		{2, outcome{1, false}, false},
		{3, outcome{0, false}, true},
		{4, outcome{2, true}, false},
		{5, outcome{1, true}, false},
		{6, outcome{0, false}, false},
		{7, outcome{1, false}, false},
		{8, outcome{0, false}, true},
		{9, outcome{2, true}, false},
		{10, outcome{1, true}, false},
		{-1, outcome{2, true}, false},
		{-2, outcome{0, false}, true},
		{-3, outcome{1, false}, false},
		{-4, outcome{0, false}, false},
		{-5, outcome{1, true}, false},
		{-6, outcome{2, true}, false},
		{-7, outcome{0, false}, true},
		{256, outcome{0, false}, false},
		{1 << 32, outcome{0, false}, false},
		{math.MaxInt - 4, outcome{0, false}, true},
		{math.MaxInt - 3, outcome{2, true}, false},
		{math.MaxInt - 2, outcome{1, true}, false},
		{math.MaxInt - 1, outcome{0, false}, false},
		{math.MaxInt, outcome{1, false}, false},
		{math.MinInt, outcome{1, false}, false},
		{math.MinInt + 1, outcome{0, false}, true},
		{math.MinInt + 2, outcome{2, true}, false},
		{math.MinInt + 3, outcome{1, true}, false},
		{math.MinInt + 4, outcome{0, false}, false},
	}
	for _, c := range cases {
		n := mustNew(t)
		n.Luck([]int{c.number})
		checkSend(t, n, m, c.want)
		checkLeft(t, n, 0)
		if c.late {
			checkLate(t, n, m)
		} else {
			checkLate(t, n)
		}
		if t.Failed() {
			t.Fatalf("the number is %d", c.number)
		}
	}
}

func TestWithoutLuckMessagesCome(t *testing.T) {
	n := mustNew(t)
	for range 100 {
		checkSend(t, n, sent{1, "a"}, outcome{1, true})
	}
	checkLeft(t, n, 0)
	checkLate(t, n)
}

// TestLuckIsOfAnyMessage: neither the receiver nor the bytes change what a number says.
func TestLuckIsOfAnyMessage(t *testing.T) {
	for _, m := range anyMessages() {
		n := mustNew(t)
		n.Luck([]int{4, 3, 2, 1, 0})
		for _, want := range []outcome{{2, true}, {0, false}, {1, false}, {0, false}, {1, true}, {1, true}} {
			checkSend(t, n, m, want)
		}
		checkLate(t, n, m)
	}
}

func anyMessages() []sent {
	var all []sent
	for _, to := range []int{0, 1, 2, 100, -1, -100, math.MinInt, math.MaxInt} {
		for _, text := range []string{"", "a", "\x00", "\x00\xff\x80a\xc3", strings.Repeat("ab\xff", 100000)} {
			all = append(all, sent{to, text})
		}
	}
	return all
}

// P604

func TestExamples(t *testing.T) {
	n := mustNew(t)
	n.Luck([]int{3, 1})
	checkSend(t, n, sent{2, "a"}, outcome{0, false})
	checkSend(t, n, sent{2, "b"}, outcome{0, false})
	checkSend(t, n, sent{2, "c"}, outcome{1, true})
	checkLate(t, n, sent{2, "a"})
	checkTake(t, n, 0, sent{2, "a"})
	checkLate(t, n)
}

func TestNothingIsLate(t *testing.T) {
	n := mustNew(t)
	n.Send(1, []byte("a"))
	for _, k := range []int{math.MinInt, -1, 0, 1, math.MaxInt} {
		checkNone(t, n, k)
	}
	checkLate(t, n)
}

func TestMessageLeavesAllAsItIs(t *testing.T) {
	n := withLate(t, five()...)
	for range 3 {
		checkLate(t, n, five()...)
	}
}

func TestPlacesBesideTheLateOnes(t *testing.T) {
	n := withLate(t, five()...)
	for _, k := range []int{-1, 5} {
		checkNone(t, n, k)
		checkLate(t, n, five()...)
	}
	checkMessage(t, n, 0, five()[0])
	checkMessage(t, n, 4, five()[4])
	checkDouble(t, n, 0, true)
	checkDouble(t, n, 5, true)
	checkNone(t, n, 7)
	checkTake(t, n, 6, five()[0])
	checkTake(t, n, 0, five()[0])
	checkLate(t, n, append(five()[1:], five()[0])...)
}

func TestTakeOfEach(t *testing.T) {
	for k := range five() {
		want := five()
		n := withLate(t, want...)
		checkTake(t, n, k, want[k])
		want = slices.Delete(want, k, k+1)
		checkLate(t, n, want...)
		checkNone(t, n, len(want))
		n.Luck([]int{toBeLate})
		checkSend(t, n, sent{8, "new"}, outcome{})
		checkLate(t, n, append(want, sent{8, "new"})...)
	}
}

func TestDoubleOfEach(t *testing.T) {
	for k := range five() {
		want := five()
		n := withLate(t, want...)
		checkDouble(t, n, k, true)
		want = append(want, want[k])
		checkLate(t, n, want...)
		checkTake(t, n, k, want[k])
		checkLate(t, n, slices.Delete(want, k, k+1)...)
	}
}

func TestDoubleOfOneThatWasDoubled(t *testing.T) {
	a, b := sent{1, "a"}, sent{2, "b"}
	n := withLate(t, a, b)
	checkDouble(t, n, 0, true)
	checkDouble(t, n, 2, true)
	checkDouble(t, n, 0, true)
	checkLate(t, n, a, b, a, a, a)
	checkTake(t, n, 0, a)
	checkDouble(t, n, 0, true)
	checkLate(t, n, b, a, a, a, b)
	checkTake(t, n, 2, a)
	checkTake(t, n, 0, b)
	checkLate(t, n, a, a, b)
}

func TestTakenOnesDoNotComeBack(t *testing.T) {
	a := sent{1, "a"}
	n := withLate(t, a)
	checkDouble(t, n, 0, true)
	checkTake(t, n, 0, a)
	checkTake(t, n, 0, a)
	checkLate(t, n)
	checkNone(t, n, 0)
	n.Luck([]int{toBeLate})
	checkSend(t, n, sent{2, "b"}, outcome{})
	checkLate(t, n, sent{2, "b"})
}

// P605

func TestJustWhatIsLateIsLate(t *testing.T) {
	n := mustNew(t)
	var want []sent
	for i := range 100 {
		m := sent{i - 50, strings.Repeat("x", i)}
		n.Luck([]int{i})
		n.Send(m.to, []byte(m.text))
		if i%5 == toBeLate {
			want = append(want, m)
		}
	}
	checkLate(t, n, want...)
}

func TestLateOnesHaveTheirBytes(t *testing.T) {
	all := anyMessages()
	n := withLate(t, all...)
	checkLate(t, n, all...)
	for i, m := range all {
		checkDouble(t, n, 0, true)
		checkTake(t, n, 0, m)
		checkTake(t, n, n.Late()-1, m)
		if n.Late() != len(all)-i-1 {
			t.Fatalf("Late: %d behind %d", n.Late(), i+1)
		}
	}
	checkLate(t, n)
}

// P606

// TestManyLateOnes takes from the front, from the end and from the midst of a long list.
func TestManyLateOnes(t *testing.T) {
	const many = 30000
	want := make([]sent, many)
	for i := range want {
		want[i] = sent{i, string([]byte{byte(i), byte(i >> 8)})}
	}
	places := []func(late int) int{
		func(int) int { return 0 },
		func(late int) int { return late - 1 },
		func(late int) int { return late / 2 },
	}
	for _, place := range places {
		n := withLate(t, want...)
		left := slices.Clone(want)
		for len(left) > 0 {
			k := place(len(left))
			checkTake(t, n, k, left[k])
			left = slices.Delete(left, k, k+1)
			if n.Late() != len(left) || t.Failed() {
				t.Fatalf("Late: %d, not %d", n.Late(), len(left))
			}
		}
		checkLate(t, n)
	}
}

// plain is a net, as the chapter tells it.
type plain struct {
	luck []int
	late []sent
}

func (p *plain) send(m sent) outcome {
	number := 0
	if len(p.luck) > 0 {
		number, p.luck = p.luck[0], slices.Clone(p.luck[1:])
	}
	for number < 0 {
		number += 5
	}
	switch number % 5 {
	case 0:
		return outcome{1, true}
	case 2:
		return outcome{1, false}
	case 3:
		p.late = append(p.late, m)
	case 4:
		return outcome{2, true}
	}
	return outcome{}
}

func (p *plain) has(k int) bool { return k >= 0 && k < len(p.late) }

// both is a net and what it should be.
type both struct {
	net   *net.Net
	plain plain
}

func (x *both) anyCall(t *testing.T, r *rand.Rand) {
	k := r.IntN(len(x.plain.late)+3) - 1
	switch r.IntN(6) {
	case 0:
		l := make([]int, r.IntN(5))
		for i := range l {
			l[i] = r.IntN(41) - 20
		}
		x.net.Luck(l)
		x.plain.luck = append(x.plain.luck, l...)
	case 1, 2, 3:
		m := sent{r.IntN(7) - 3, string(bytes.Repeat([]byte{byte(r.Int())}, r.IntN(4)))}
		checkSend(t, x.net, m, x.plain.send(m))
	case 4:
		if !x.plain.has(k) {
			checkNone(t, x.net, k)
			return
		}
		checkTake(t, x.net, k, x.plain.late[k])
		x.plain.late = slices.Delete(x.plain.late, k, k+1)
	case 5:
		checkDouble(t, x.net, k, x.plain.has(k))
		if x.plain.has(k) && len(x.plain.late) < 12 {
			x.plain.late = append(x.plain.late, x.plain.late[k])
		} else if x.plain.has(k) {
			checkTake(t, x.net, len(x.plain.late), x.plain.late[k])
		}
	}
}

// TestAnyCallsInAnyOrder holds two nets, side by side, against what the chapter says.
func TestAnyCallsInAnyOrder(t *testing.T) {
	for seed := range uint64(200) {
		r := rand.New(rand.NewPCG(seed, 6))
		nets := []*both{{net: mustNew(t)}, {net: mustNew(t)}}
		for range 200 {
			nets[r.IntN(2)].anyCall(t, r)
			for _, x := range nets {
				checkLeft(t, x.net, len(x.plain.luck))
				checkLate(t, x.net, x.plain.late...)
			}
			if t.Failed() {
				t.Fatalf("the seed is %d", seed)
			}
		}
	}
}
