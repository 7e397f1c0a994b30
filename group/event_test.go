package group_test

import (
	"bytes"
	"encoding/binary"
	"fmt"
	"hash/crc32"
	"math"
	"reflect"
	"slices"
	"strings"
	"testing"

	"gazette/api"
	"gazette/group"
)

// takes has the fields that the chapter names for a Kind.
func takes(kind int) []string {
	list := map[int]string{
		group.Join:    "Member Now",
		group.Leave:   "Member Now",
		group.Beat:    "Member Gen Now",
		group.Commit:  "Member Gen Part Offset",
		group.Expire:  "Now",
		group.Promise: "Member Gen Part Offset Producer Epoch",
		group.Mark:    "Producer Epoch Yes",
	}
	return strings.Fields(list[kind])
}

func allFields() []string {
	return strings.Fields("Member Gen Part Offset Producer Epoch Now Yes")
}

func numberFields() []string { return strings.Fields("Gen Part Offset Producer Epoch Now") }

func field(x group.Event, name string) reflect.Value { return reflect.ValueOf(x).FieldByName(name) }

// with is x with another value in a field.
func with(x group.Event, name string, to any) group.Event {
	reflect.ValueOf(&x).Elem().FieldByName(name).Set(reflect.ValueOf(to))
	return x
}

// limit is what a number has to be below.
func limit(name string) int {
	switch name {
	case "Part":
		return 32
	case "Epoch":
		return 1 << 31
	}
	return 1 << 48
}

// mayBe does what the chapter's words say.
func mayBe(x group.Event) bool {
	if x.Kind < 1 || x.Kind > 7 {
		return false
	}
	for _, name := range allFields() {
		if !slices.Contains(takes(x.Kind), name) && !field(x, name).IsZero() {
			return false
		}
	}
	for _, name := range numberFields() {
		if n := field(x, name).Int(); n < 0 || n >= int64(limit(name)) {
			return false
		}
	}
	return !slices.Contains(takes(x.Kind), "Member") || len(x.Member) >= 1 && len(x.Member) <= 64
}

// framed does what P105 says, whatever the kind and the body are.
func framed(kind int, body []byte) []byte {
	b := binary.LittleEndian.AppendUint32([]byte{byte(kind)}, uint32(len(body)))
	b = append(b, body...)
	return binary.LittleEndian.AppendUint32(b, crc32.Checksum(b, crc32.MakeTable(crc32.Castagnoli)))
}

// bodyOf has the bytes of x, whether it may be or not; of each number as many as there is room for.
func bodyOf(x group.Event) []byte {
	b := []byte{byte(x.Kind), 0}
	if x.Yes {
		b[1] = 1
	}
	for _, name := range numberFields() {
		b = append(b, binary.LittleEndian.AppendUint64(nil, uint64(field(x, name).Int()))[:6]...)
	}
	b = binary.LittleEndian.AppendUint16(b, uint16(len(x.Member)))
	return append(b, x.Member...)
}

// ordinary has an event of each Kind, with something in all that it takes.
func ordinary() []group.Event {
	return []group.Event{
		join("a", 5), leave("a", 5), beat("a", 2, 5), commit("a", 2, 3, 4), expire(5), promise("a", 2, 3, 4, 6, 7), yes(6, 7),
	}
}

// right has events that may be: each Kind, and each field of it at its edges.
func right() []group.Event {
	list := append(ordinary(), no(6, 7))
	for _, x := range ordinary() {
		least := group.Event{Kind: x.Kind}
		most := x
		for _, name := range takes(x.Kind) {
			switch name {
			case "Member":
				least.Member, most.Member = "\x00", strings.Repeat("\xff", api.MaxName)
				for _, member := range []string{"b", strings.Repeat("n", api.MaxName-1), strings.Repeat("n", api.MaxName), "é ß", "\xfe"} {
					list = append(list, with(x, name, member))
				}
			case "Yes":
			default:
				most = with(most, name, limit(name)-1)
				for _, n := range []int{0, 1, 255, 256, limit(name) - 2, limit(name) - 1} {
					if n < limit(name) {
						list = append(list, with(x, name, n))
					}
				}
			}
		}
		list = append(list, least, most)
	}
	return list
}

// wrong has events that may not be; of each only one thing is wrong.
func wrong() []group.Event {
	list := []group.Event{{}}
	for _, x := range ordinary() {
		for _, kind := range []int{math.MinInt, -1, 0, 8, 9, 32, 256 + x.Kind, 1<<32 + x.Kind, math.MaxInt} {
			list = append(list, with(x, "Kind", kind))
		}
		for _, name := range allFields() {
			taken := slices.Contains(takes(x.Kind), name)
			switch {
			case name == "Yes" && !taken:
				list = append(list, with(x, name, true))
			case name == "Member" && taken:
				list = append(list, with(x, name, ""), with(x, name, strings.Repeat("n", api.MaxName+1)), with(x, name, strings.Repeat("n", 1<<16)))
			case name == "Member":
				list = append(list, with(x, name, "a"), with(x, name, strings.Repeat("n", api.MaxName+1)))
			case name != "Yes":
				for _, n := range []int{math.MinInt, -1, limit(name), limit(name) + 1, math.MaxInt} {
					list = append(list, with(x, name, n))
				}
				if !taken {
					list = append(list, with(x, name, 1), with(x, name, limit(name)-1))
				}
			}
		}
	}
	return list
}

func mustPut(t *testing.T, x group.Event) []byte {
	t.Helper()
	b, e := group.PutEvent(x)
	if e != api.OK {
		t.Fatalf("PutEvent(%s): %d", brief(x), e)
	}
	return b
}

// P1502

func TestPutEvent(t *testing.T) {
	x := promise("bc", 0x060504030201, 1, 258, 9, 1<<24)
	want := framed(32, []byte{6, 0, 1, 2, 3, 4, 5, 6, 1, 0, 0, 0, 0, 0, 2, 1, 0, 0, 0, 0, 9, 0, 0, 0, 0, 0, 0, 0, 0, 1, 0, 0, 0, 0, 0, 0, 0, 0, 2, 0, 'b', 'c'})
	if b := mustPut(t, x); !bytes.Equal(b, want) {
		t.Errorf("PutEvent(%s): %v, not %v", brief(x), b, want)
	}
	x = yes(0, 3)
	want = framed(32, append([]byte{7, 1}, append(make([]byte, 24), 3, 0, 0, 0, 0, 0, 0, 0, 0, 0, 0, 0, 0, 0)...))
	if b := mustPut(t, x); !bytes.Equal(b, want) {
		t.Errorf("PutEvent(%s): %v, not %v", brief(x), b, want)
	}
	x = beat("a", 1, 0x0b0a09080706)
	b := mustPut(t, x)
	if !bytes.Equal(b[:7], []byte{32, 41, 0, 0, 0, 3, 0}) || !bytes.Equal(b[37:43], []byte{6, 7, 8, 9, 10, 11}) || len(b) != 50 {
		t.Errorf("PutEvent(%s): %v", brief(x), b)
	}
}

func TestPutEventOfWhatMayBe(t *testing.T) {
	for _, x := range right() {
		if b := mustPut(t, x); !bytes.Equal(b, framed(32, bodyOf(x))) {
			t.Errorf("PutEvent(%s): %v, not %v", brief(x), b, framed(32, bodyOf(x)))
		}
	}
}

func TestPutEventOfWhatMayNotBe(t *testing.T) {
	for _, x := range wrong() {
		if b, e := group.PutEvent(x); len(b) != 0 || e != api.ErrArg {
			t.Errorf("PutEvent(%s): %v, %d", brief(x), b, e)
		}
	}
}

func TestGetEventOfWhatMayBe(t *testing.T) {
	for _, x := range right() {
		if got, e := group.GetEvent(framed(32, bodyOf(x))); got != x || e != api.OK {
			t.Errorf("GetEvent of %s: %s, %d", brief(x), brief(got), e)
		}
	}
}

func checkNoEvent(t *testing.T, name string, b []byte) {
	t.Helper()
	if x, e := group.GetEvent(b); e != api.ErrForm || x != (group.Event{}) {
		t.Errorf("%s: GetEvent(%d bytes): %s, %d", name, len(b), brief(x), e)
	}
}

// fits tells whether the bytes of x say all that x has.
func fits(x group.Event) bool {
	for _, name := range numberFields() {
		if n := field(x, name).Int(); n < 0 || n >= 1<<48 {
			return false
		}
	}
	return x.Kind >= 0 && x.Kind < 256 && len(x.Member) < 1<<16
}

func TestGetEventOfWhatMayNotBe(t *testing.T) {
	tried := 0
	for _, x := range wrong() {
		if fits(x) {
			checkNoEvent(t, brief(x), framed(32, bodyOf(x)))
			tried++
		}
	}
	if tried < 100 {
		t.Errorf("only %d have bytes", tried)
	}
}

func TestGetEventOfBytesThatAreCutOffOrGoOn(t *testing.T) {
	checkNoEvent(t, "nil", nil)
	checkNoEvent(t, "empty", []byte{})
	for _, x := range right() {
		b, body := mustPut(t, x), bodyOf(x)
		for n := range b {
			checkNoEvent(t, "cut off", b[:n])
		}
		for n := range body {
			checkNoEvent(t, "a body that is cut off", framed(32, body[:n]))
		}
		checkNoEvent(t, "a byte behind", append(slices.Clone(b), 0))
		checkNoEvent(t, "another one behind", append(slices.Clone(b), b...))
		checkNoEvent(t, "a byte ahead", append([]byte{0}, b...))
		checkNoEvent(t, "a byte behind the body", framed(32, append(slices.Clone(body), 0)))
	}
	checkNoEvent(t, "more than MaxBytes are told", framed(32, make([]byte, api.MaxBytes+1)))
}

func TestGetEventOfOtherKinds(t *testing.T) {
	for _, x := range ordinary() {
		for kind := range 256 {
			if kind != 32 {
				checkNoEvent(t, fmt.Sprint("the kind ", kind), framed(kind, bodyOf(x)))
			}
		}
	}
}

func TestGetEventWithAnotherSum(t *testing.T) {
	for _, x := range ordinary() {
		b := mustPut(t, x)
		for i := range b {
			for bit := range 8 {
				turned := slices.Clone(b)
				turned[i] ^= 1 << bit
				checkNoEvent(t, "a bit turned", turned)
			}
		}
	}
}

func TestGetEventOfOtherBytesForYes(t *testing.T) {
	for _, x := range append(ordinary(), no(6, 7)) {
		for value := range 256 {
			body := bodyOf(x)
			body[1] = byte(value)
			if value > 1 || value == 1 && x.Kind != group.Mark {
				checkNoEvent(t, fmt.Sprint(value, " for Yes of ", brief(x)), framed(32, body))
			} else if got, e := group.GetEvent(framed(32, body)); got.Yes != (value == 1) || e != api.OK {
				t.Errorf("GetEvent of %s with %d for Yes: %v, %d", brief(x), value, got, e)
			}
		}
	}
}

func TestGetEventOfOtherLengthsOfTheName(t *testing.T) {
	for _, x := range ordinary() {
		body := bodyOf(x)
		for _, n := range []int{0, 1, 2, 64, 65, 255, 256, 65535} {
			if n != len(x.Member) {
				changed := slices.Clone(body)
				binary.LittleEndian.PutUint16(changed[38:], uint16(n))
				checkNoEvent(t, fmt.Sprint(n, " bytes told of ", brief(x)), framed(32, changed))
			}
		}
	}
}

// anyEvent is one of which a few fields are set; often it may not be.
func (d dice) anyEvent() group.Event {
	x := pick(d, ordinary()...)
	for _, name := range numberFields() {
		if slices.Contains(takes(x.Kind), name) {
			x = with(x, name, pick(d, 0, 1, limit(name)-1, d.IntN(limit(name))))
		}
	}
	x.Yes = x.Kind == group.Mark && d.IntN(2) == 0
	if x.Member != "" {
		x.Member = strings.Repeat(pick(d, "x", "\x00", "z"), pick(d, 1, 2, 64, 1+d.IntN(64)))
	}
	if d.IntN(3) > 0 {
		return x
	}
	switch name := pick(d, append(allFields(), "Kind")...); name {
	case "Member":
		x.Member = strings.Repeat("y", pick(d, 0, 1, 64, 65, d.IntN(300)))
	case "Yes":
		x.Yes = !x.Yes
	case "Kind":
		x.Kind = d.IntN(10)
	default:
		x = with(x, name, pick(d, 0, 1, limit(name)-1, limit(name)))
	}
	return x
}

// TestThereAndBack: just what may be is put, and got again.
func TestThereAndBack(t *testing.T) {
	d := diceOf(15, 2)
	seen := map[api.Errno]int{}
	for range 30000 {
		x := d.anyEvent()
		b, e := group.PutEvent(x)
		if (e == api.OK) != mayBe(x) || e != api.OK && (e != api.ErrArg || len(b) != 0) {
			t.Fatalf("PutEvent(%s): %d bytes, %d", brief(x), len(b), e)
		}
		seen[e]++
		if fits(x) {
			b = framed(32, bodyOf(x))
			got, e := group.GetEvent(b)
			if mayBe(x) && (got != x || e != api.OK) || !mayBe(x) && (got != group.Event{} || e != api.ErrForm) {
				t.Fatalf("GetEvent of %s: %s, %d", brief(x), brief(got), e)
			}
		}
	}
	if seen[api.OK] < 5000 || seen[api.ErrArg] < 3000 {
		t.Errorf("too few of one kind: %v", seen)
	}
}

// TestGetEventOfBytesThatWereChanged: whatever is got is just what is put as these bytes.
func TestGetEventOfBytesThatWereChanged(t *testing.T) {
	d := diceOf(15, 3)
	seen := map[api.Errno]int{}
	list := right()
	for range 30000 {
		body := bodyOf(pick(d, list...))
		for range 1 + d.IntN(2) {
			body[d.IntN(len(body))] = byte(pick(d, 0, 1, 2, 6, 7, 255, d.IntN(256)))
		}
		b := framed(32, body)
		x, e := group.GetEvent(b)
		if e == api.OK && !bytes.Equal(mustPut(t, x), b) || e != api.OK && (e != api.ErrForm || x != group.Event{}) {
			t.Fatalf("GetEvent(% x): %s, %d", b, brief(x), e)
		}
		seen[e]++
	}
	if seen[api.OK] < 3000 || seen[api.ErrForm] < 3000 {
		t.Errorf("too few of one kind: %v", seen)
	}
}

// What is handed in and answered

func TestPutBytesShareNothing(t *testing.T) {
	x := promise("abc", 1, 2, 3, 4, 5)
	b, other := mustPut(t, x), mustPut(t, x)
	want := framed(32, bodyOf(x))
	for i := range b[:cap(b)] {
		b[:cap(b)][i] = 77
	}
	if !bytes.Equal(other, want) || !bytes.Equal(mustPut(t, x), want) {
		t.Errorf("answers of PutEvent share memory: %v", other)
	}
}

func TestGotEventsShareNothing(t *testing.T) {
	want := promise("abc", 1, 2, 3, 4, 5)
	b := append(make([]byte, 0, 200), mustPut(t, want)...)
	for i := range b[len(b):cap(b)] {
		b[len(b):cap(b)][i] = 7
	}
	was := slices.Clone(b[:cap(b)])
	x, _ := group.GetEvent(b)
	if !bytes.Equal(b[:cap(b)], was) {
		t.Errorf("GetEvent changed its bytes: %v", b[:cap(b)])
	}
	for i := range b[:cap(b)] {
		b[:cap(b)][i] = 'x'
	}
	if x != want {
		t.Errorf("GetEvent kept its bytes: %s", brief(x))
	}
}
