package txn_test

import (
	"bytes"
	"encoding/binary"
	"fmt"
	"hash/crc32"
	"math"
	"reflect"
	"slices"
	"strings"
	"testing"

	"gazette/api"
	"gazette/txn"
)

// takes has the fields that the chapter names for a Kind.
func takes(kind int) []string {
	list := map[int]string{
		txn.Init:   "Name Timeout Now",
		txn.Add:    "Producer Epoch Place Now",
		txn.End:    "Producer Epoch Yes",
		txn.Marked: "Producer Epoch Place",
		txn.Expire: "Now",
	}
	return strings.Fields(list[kind])
}

func allFields() []string { return strings.Fields("Name Producer Epoch Place Timeout Now Yes") }

func numberFields() []string { return strings.Fields("Producer Epoch Place Timeout Now") }

func field(x txn.Event, name string) reflect.Value { return reflect.ValueOf(x).FieldByName(name) }

// with is x with another value in a field.
func with(x txn.Event, name string, to any) txn.Event {
	reflect.ValueOf(&x).Elem().FieldByName(name).Set(reflect.ValueOf(to))
	return x
}

// least is the first number that a field can be, where it is taken.
func least(name string) int {
	if name == "Timeout" {
		return 1
	}
	return 0
}

// limit is what a number has to be below.
func limit(name string) int {
	switch name {
	case "Timeout":
		return 3601
	case "Epoch":
		return 1 << 31
	}
	return 1 << 48
}

// mayBe does what the chapter's words say.
func mayBe(x txn.Event) bool {
	if x.Kind < 1 || x.Kind > 5 {
		return false
	}
	for _, name := range allFields() {
		taken := slices.Contains(takes(x.Kind), name)
		if !taken && !field(x, name).IsZero() {
			return false
		}
		if taken && slices.Contains(numberFields(), name) {
			if n := int(field(x, name).Int()); n < least(name) || n >= limit(name) {
				return false
			}
		}
	}
	return x.Kind != txn.Init || len(x.Name) >= 1 && len(x.Name) <= 64
}

// framed does what P105 says, whatever the kind and the body are.
func framed(kind int, body []byte) []byte {
	b := binary.LittleEndian.AppendUint32([]byte{byte(kind)}, uint32(len(body)))
	b = append(b, body...)
	return binary.LittleEndian.AppendUint32(b, crc32.Checksum(b, crc32.MakeTable(crc32.Castagnoli)))
}

// bodyOf has the bytes of x, whether it may be or not; of each number as many as there is room for.
func bodyOf(x txn.Event) []byte {
	b := []byte{byte(x.Kind), 0}
	if x.Yes {
		b[1] = 1
	}
	for _, name := range numberFields() {
		b = append(b, binary.LittleEndian.AppendUint64(nil, uint64(field(x, name).Int()))[:6]...)
	}
	b = binary.LittleEndian.AppendUint16(b, uint16(len(x.Name)))
	return append(b, x.Name...)
}

// ordinary has an event of each Kind, with something in all that it takes.
func ordinary() []txn.Event {
	return []txn.Event{start("x", 10, 5), add(2, 3, 4, 5), yes(2, 3), marked(2, 3, 4), expire(5)}
}

// right has events that may be: each Kind, and each field of it at its edges.
func right() []txn.Event {
	list := append(ordinary(), no(2, 3))
	for _, x := range ordinary() {
		low, high := txn.Event{Kind: x.Kind}, x
		for _, name := range takes(x.Kind) {
			switch name {
			case "Name":
				low.Name, high.Name = "\x00", strings.Repeat("\xff", api.MaxName)
				for _, s := range []string{"b", strings.Repeat("n", api.MaxName-1), strings.Repeat("n", api.MaxName), "é ß", "\xfe"} {
					list = append(list, with(x, name, s))
				}
			case "Yes":
			default:
				low, high = with(low, name, least(name)), with(high, name, limit(name)-1)
				for _, n := range []int{least(name), 1, 255, 256, limit(name) - 2, limit(name) - 1} {
					list = append(list, with(x, name, n))
				}
			}
		}
		list = append(list, low, high)
	}
	return list
}

// wrong has events that may not be; of each only one thing is wrong.
func wrong() []txn.Event {
	list := []txn.Event{{}}
	for _, x := range ordinary() {
		for _, kind := range []int{math.MinInt, -1, 0, 6, 7, 33, 256 + x.Kind, 1<<32 + x.Kind, math.MaxInt} {
			list = append(list, with(x, "Kind", kind))
		}
		for _, name := range allFields() {
			taken := slices.Contains(takes(x.Kind), name)
			switch {
			case name == "Yes" && !taken:
				list = append(list, with(x, name, true))
			case name == "Name" && taken:
				list = append(list, with(x, name, ""), with(x, name, strings.Repeat("n", api.MaxName+1)), with(x, name, strings.Repeat("n", 1<<16)))
			case name == "Name":
				list = append(list, with(x, name, "x"), with(x, name, strings.Repeat("n", api.MaxName+1)))
			case name != "Yes":
				for _, n := range []int{math.MinInt, -1, least(name) - 1, limit(name), limit(name) + 1, api.MaxNumber, math.MaxInt} {
					if n != 0 || taken {
						list = append(list, with(x, name, n))
					}
				}
				if !taken {
					list = append(list, with(x, name, 1), with(x, name, limit(name)-1))
				}
			}
		}
	}
	return list
}

func mustPut(t *testing.T, x txn.Event) []byte {
	t.Helper()
	b, e := txn.PutEvent(x)
	if e != api.OK {
		t.Fatalf("PutEvent(%s): %d", brief(x), e)
	}
	return b
}

// P1602

func TestConstants(t *testing.T) {
	if l := [...]int{txn.Init, txn.Add, txn.End, txn.Marked, txn.Expire}; l != [...]int{1, 2, 3, 4, 5} {
		t.Errorf("Kinds: %v", l)
	}
	if l := [...]int{txn.Empty, txn.Open, txn.Committing, txn.Aborting}; l != [...]int{0, 1, 2, 3} {
		t.Errorf("statuses: %v", l)
	}
}

// TestTheEdgesByName: what the tables above have is what the chapter names.
func TestTheEdgesByName(t *testing.T) {
	for _, x := range []txn.Event{
		start("x", 1, 0), start("x", 3600, topNumber), start(strings.Repeat("x", 64), 1, 0), expire(0), expire(topNumber),
		add(0, 0, 0, 0), add(topNumber, topEpoch, topNumber, topNumber), yes(0, 0), no(topNumber, topEpoch), marked(0, 0, 0), marked(topNumber, topEpoch, topNumber),
	} {
		if _, e := txn.PutEvent(x); e != api.OK {
			t.Errorf("PutEvent(%s): %d", brief(x), e)
		}
	}
	for _, x := range []txn.Event{
		{Kind: 0}, {Kind: 6}, {Kind: 6, Now: 1}, start("", 1, 0), start(strings.Repeat("x", 65), 1, 0), start("x", 0, 0), start("x", 3601, 0), start("x", 1, -1), start("x", 1, api.MaxNumber),
		add(0, 1<<31, 0, 0), add(0, -1, 0, 0), add(-1, 0, 0, 0), add(0, 0, -1, 0), add(0, 0, 0, -1), add(api.MaxNumber, 0, 0, 0), add(0, 0, api.MaxNumber, 0), add(0, 0, 0, api.MaxNumber),
		yes(-1, 0), yes(0, 1<<31), no(api.MaxNumber, 0), no(0, -1), marked(-1, 0, 0), marked(0, 1<<31, 0), marked(0, 0, api.MaxNumber), expire(-1), expire(api.MaxNumber),
	} {
		if b, e := txn.PutEvent(x); e != api.ErrArg || len(b) != 0 {
			t.Errorf("PutEvent(%s): %v, %d", brief(x), b, e)
		}
	}
}

func TestPutEvent(t *testing.T) {
	x := add(0x060504030201, 1<<24, 258, 9)
	want := framed(33, []byte{2, 0, 1, 2, 3, 4, 5, 6, 0, 0, 0, 1, 0, 0, 2, 1, 0, 0, 0, 0, 0, 0, 0, 0, 0, 0, 9, 0, 0, 0, 0, 0, 0, 0})
	if b := mustPut(t, x); !bytes.Equal(b, want) {
		t.Errorf("PutEvent(%s): %v, not %v", brief(x), b, want)
	}
	x = start("bc", 3600, 0x0b0a09080706)
	want = framed(33, append(append([]byte{1, 0}, make([]byte, 18)...), 16, 14, 0, 0, 0, 0, 6, 7, 8, 9, 10, 11, 2, 0, 'b', 'c'))
	if b := mustPut(t, x); !bytes.Equal(b, want) {
		t.Errorf("PutEvent(%s): %v, not %v", brief(x), b, want)
	}
	x = yes(7, 3)
	b := mustPut(t, x)
	if !bytes.Equal(b[:8], []byte{33, 34, 0, 0, 0, 3, 1, 7}) || len(b) != 43 {
		t.Errorf("PutEvent(%s): %v", brief(x), b)
	}
}

func TestPutEventOfWhatMayBe(t *testing.T) {
	for _, x := range right() {
		if b := mustPut(t, x); !bytes.Equal(b, framed(33, bodyOf(x))) {
			t.Errorf("PutEvent(%s): %v, not %v", brief(x), b, framed(33, bodyOf(x)))
		}
	}
}

func TestPutEventOfWhatMayNotBe(t *testing.T) {
	for _, x := range wrong() {
		if b, e := txn.PutEvent(x); len(b) != 0 || e != api.ErrArg {
			t.Errorf("PutEvent(%s): %v, %d", brief(x), b, e)
		}
	}
}

func TestGetEventOfWhatMayBe(t *testing.T) {
	for _, x := range right() {
		if got, e := txn.GetEvent(framed(33, bodyOf(x))); got != x || e != api.OK {
			t.Errorf("GetEvent of %s: %s, %d", brief(x), brief(got), e)
		}
	}
}

func checkNoEvent(t *testing.T, name string, b []byte) {
	t.Helper()
	if x, e := txn.GetEvent(b); e != api.ErrForm || x != (txn.Event{}) {
		t.Errorf("%s: GetEvent(%d bytes): %s, %d", name, len(b), brief(x), e)
	}
}

// fits tells whether the bytes of x say all that x has.
func fits(x txn.Event) bool {
	for _, name := range numberFields() {
		if n := field(x, name).Int(); n < 0 || n >= 1<<48 {
			return false
		}
	}
	return x.Kind >= 0 && x.Kind < 256 && len(x.Name) < 1<<16
}

func TestGetEventOfWhatMayNotBe(t *testing.T) {
	tried := 0
	for _, x := range wrong() {
		if fits(x) {
			checkNoEvent(t, brief(x), framed(33, bodyOf(x)))
			tried++
		}
	}
	if tried < 50 {
		t.Errorf("only %d have bytes", tried)
	}
}

func TestGetEventOfBytesThatAreCutOffOrGoOn(t *testing.T) {
	checkNoEvent(t, "nil", nil)
	checkNoEvent(t, "empty", []byte{})
	for _, x := range right() {
		b, body := mustPut(t, x), bodyOf(x)
		for n := range b {
			checkNoEvent(t, "cut off", b[:n])
		}
		for n := range body {
			checkNoEvent(t, "a body that is cut off", framed(33, body[:n]))
		}
		checkNoEvent(t, "a byte behind", append(slices.Clone(b), 0))
		checkNoEvent(t, "another one behind", append(slices.Clone(b), b...))
		checkNoEvent(t, "a byte ahead", append([]byte{0}, b...))
		checkNoEvent(t, "a byte behind the body", framed(33, append(slices.Clone(body), 0)))
	}
	checkNoEvent(t, "more than MaxBytes are told", framed(33, make([]byte, api.MaxBytes+1)))
}

func TestGetEventOfOtherKinds(t *testing.T) {
	for _, x := range ordinary() {
		for kind := range 256 {
			if kind != 33 {
				checkNoEvent(t, fmt.Sprint("the kind ", kind), framed(kind, bodyOf(x)))
			}
		}
	}
}

func TestGetEventWithAnotherSum(t *testing.T) {
	for _, x := range ordinary() {
		b := mustPut(t, x)
		for i := range b {
			for bit := range 8 {
				turned := slices.Clone(b)
				turned[i] ^= 1 << bit
				checkNoEvent(t, "a bit turned", turned)
			}
		}
	}
}

func TestGetEventOfOtherBytesForYes(t *testing.T) {
	for _, x := range append(ordinary(), no(2, 3)) {
		for value := range 256 {
			body := bodyOf(x)
			body[1] = byte(value)
			if value > 1 || value == 1 && x.Kind != txn.End {
				checkNoEvent(t, fmt.Sprint(value, " for Yes of ", brief(x)), framed(33, body))
			} else if got, e := txn.GetEvent(framed(33, body)); got.Yes != (value == 1) || e != api.OK {
				t.Errorf("GetEvent of %s with %d for Yes: %v, %d", brief(x), value, got, e)
			}
		}
	}
}

func TestGetEventOfOtherLengthsOfTheName(t *testing.T) {
	for _, x := range ordinary() {
		body := bodyOf(x)
		for _, n := range []int{0, 1, 2, 64, 65, 255, 256, 65535} {
			if n != len(x.Name) {
				changed := slices.Clone(body)
				binary.LittleEndian.PutUint16(changed[32:], uint16(n))
				checkNoEvent(t, fmt.Sprint(n, " bytes told of ", brief(x)), framed(33, changed))
			}
		}
	}
}

// anyEvent is one of which a few fields are set; often it may not be.
func (d dice) anyEvent() txn.Event {
	x := pick(d, ordinary()...)
	for _, name := range takes(x.Kind) {
		switch name {
		case "Name":
			x.Name = strings.Repeat(pick(d, "x", "\x00", "z"), pick(d, 1, 2, 64, 1+d.IntN(64)))
		case "Yes":
			x.Yes = d.IntN(2) == 0
		default:
			x = with(x, name, pick(d, least(name), 1, limit(name)-1, least(name)+d.IntN(limit(name)-least(name))))
		}
	}
	if d.IntN(3) > 0 {
		return x
	}
	switch name := pick(d, append(allFields(), "Kind")...); name {
	case "Name":
		x.Name = strings.Repeat("y", pick(d, 0, 1, 64, 65, d.IntN(300)))
	case "Yes":
		x.Yes = !x.Yes
	case "Kind":
		x.Kind = d.IntN(8)
	default:
		x = with(x, name, pick(d, 0, 1, limit(name)-1, limit(name)))
	}
	return x
}

// TestThereAndBack: just what may be is put, and got again.
func TestThereAndBack(t *testing.T) {
	d := diceOf(16, 2)
	seen := map[api.Errno]int{}
	for range 30000 {
		x := d.anyEvent()
		b, e := txn.PutEvent(x)
		if (e == api.OK) != mayBe(x) || e != api.OK && (e != api.ErrArg || len(b) != 0) {
			t.Fatalf("PutEvent(%s): %d bytes, %d", brief(x), len(b), e)
		}
		seen[e]++
		if fits(x) {
			got, e := txn.GetEvent(framed(33, bodyOf(x)))
			if mayBe(x) && (got != x || e != api.OK) || !mayBe(x) && (got != txn.Event{} || e != api.ErrForm) {
				t.Fatalf("GetEvent of %s: %s, %d", brief(x), brief(got), e)
			}
		}
	}
	if seen[api.OK] < 5000 || seen[api.ErrArg] < 3000 {
		t.Errorf("too few of one kind: %v", seen)
	}
}

// TestGetEventOfBytesThatWereChanged: whatever is got is just what is put as these bytes.
func TestGetEventOfBytesThatWereChanged(t *testing.T) {
	d := diceOf(16, 3)
	seen := map[api.Errno]int{}
	list := right()
	for range 30000 {
		body := bodyOf(pick(d, list...))
		for range 1 + d.IntN(2) {
			body[d.IntN(len(body))] = byte(pick(d, 0, 1, 2, 5, 6, 255, d.IntN(256)))
		}
		b := framed(33, body)
		x, e := txn.GetEvent(b)
		if e == api.OK && !bytes.Equal(mustPut(t, x), b) || e != api.OK && (e != api.ErrForm || x != txn.Event{}) {
			t.Fatalf("GetEvent(% x): %s, %d", b, brief(x), e)
		}
		seen[e]++
	}
	if seen[api.OK] < 3000 || seen[api.ErrForm] < 3000 {
		t.Errorf("too few of one kind: %v", seen)
	}
}

// What is handed in and answered

func TestPutBytesShareNothing(t *testing.T) {
	x := start("abc", 1, 2)
	b, other := mustPut(t, x), mustPut(t, x)
	want := framed(33, bodyOf(x))
	spoil(b, 77)
	if !bytes.Equal(other, want) || !bytes.Equal(mustPut(t, x), want) {
		t.Errorf("answers of PutEvent share memory: %v", other)
	}
}

func TestGotEventsShareNothing(t *testing.T) {
	want := start("abc", 1, 2)
	b := append(make([]byte, 0, 200), mustPut(t, want)...)
	spoil(b[len(b):], 7)
	was := slices.Clone(b[:cap(b)])
	x, _ := txn.GetEvent(b)
	if !bytes.Equal(b[:cap(b)], was) {
		t.Errorf("GetEvent changed its bytes: %v", b[:cap(b)])
	}
	spoil(b, 'x')
	if x != want {
		t.Errorf("GetEvent kept its bytes: %s", brief(x))
	}
}
