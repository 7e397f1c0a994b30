package wire_test

import (
	"bytes"
	"hash/crc32"
	"math"
	"math/rand/v2"
	"strings"
	"testing"

	"gazette/api"
	"gazette/wire"
)

// someBytes are the same ones at each run.
func someBytes(n int) []byte {
	r := rand.New(rand.NewPCG(1, uint64(n)))
	b := make([]byte, n)
	for i := range b {
		b[i] = byte(r.Uint32())
	}
	return b
}

func mustFrame(t *testing.T, kind int, body []byte) []byte {
	t.Helper()
	b, e := wire.Frame(kind, body)
	if e != api.OK {
		t.Fatalf("Frame(%d, %d bytes): %d", kind, len(body), e)
	}
	return b
}

func mustText(t *testing.T, s string) []byte {
	t.Helper()
	b, e := wire.Text(s)
	if e != api.OK {
		t.Fatalf("Text(%d bytes): %d", len(s), e)
	}
	return b
}

func mustPut(t *testing.T, n, size int) []byte {
	t.Helper()
	b, e := wire.Put(n, size)
	if e != api.OK {
		t.Fatalf("Put(%d, %d): %d", n, size, e)
	}
	return b
}

func around(ahead, b, behind []byte) []byte {
	return bytes.Join([][]byte{ahead, b, behind}, nil)
}

func checkGet(t *testing.T, b []byte, at, size, n, to int, e api.Errno) {
	t.Helper()
	gotN, gotTo, gotE := wire.Get(b, at, size)
	if gotN != n || gotTo != to || gotE != e {
		t.Errorf("Get(%d bytes, %d, %d): %d %d %d, not %d %d %d", len(b), at, size, gotN, gotTo, gotE, n, to, e)
	}
}

func checkGetText(t *testing.T, b []byte, at int, s string, to int, e api.Errno) {
	t.Helper()
	gotS, gotTo, gotE := wire.GetText(b, at)
	if gotS != s || gotTo != to || gotE != e {
		t.Errorf("GetText(%d bytes, %d): %d bytes, %d %d, not %d bytes, %d %d", len(b), at, len(gotS), gotTo, gotE, len(s), to, e)
	}
}

func checkUnframe(t *testing.T, b []byte, at, kind int, body []byte, to int, e api.Errno) {
	t.Helper()
	gotKind, gotBody, gotTo, gotE := wire.Unframe(b, at)
	if gotKind != kind || !bytes.Equal(gotBody, body) || gotTo != to || gotE != e {
		t.Errorf("Unframe(%d bytes, %d): %d, %d bytes, %d %d, not %d, %d bytes, %d %d", len(b), at, gotKind, len(gotBody), gotTo, gotE, kind, len(body), to, e)
	}
}

// P102

// slowSum does what P102 says, word by word.
func slowSum(b []byte) uint32 {
	register := uint32(math.MaxUint32)
	for _, x := range b {
		for i := range 8 {
			unlike := uint32(x>>i)&1 != register&1
			register >>= 1
			if unlike {
				register ^= 2197175160
			}
		}
	}
	return ^register
}

func TestCrcOfKnownBytes(t *testing.T) {
	for _, c := range []struct {
		b   []byte
		sum uint32
	}{
		{nil, 0},
		{[]byte{}, 0},
		{[]byte("123456789"), 3808858755},
		{make([]byte, 32), 0x8A9136AA},
		{bytes.Repeat([]byte{255}, 32), 0x62A8AB43},
	} {
		if sum := wire.Crc(c.b); sum != c.sum {
			t.Errorf("Crc(%v): %d, not %d", c.b, sum, c.sum)
		}
	}
}

func TestCrcIsTheRuleOfTheDocument(t *testing.T) {
	castagnoli := crc32.MakeTable(crc32.Castagnoli)
	check := func(b []byte) {
		t.Helper()
		sum := wire.Crc(b)
		if sum != slowSum(b) || sum != crc32.Checksum(b, castagnoli) {
			t.Errorf("Crc(%d bytes): %d, not %d", len(b), sum, slowSum(b))
		}
	}
	for x := range 256 {
		check([]byte{byte(x)})
	}
	for n := range 300 {
		check(someBytes(n))
	}
	check(someBytes(api.MaxBytes + 9))
}

// P103

func TestPut(t *testing.T) {
	for _, c := range []struct {
		n, size int
		b       []byte
	}{
		{258, 2, []byte{2, 1}},
		{0, 1, []byte{0}},
		{255, 1, []byte{255}},
		{1, 3, []byte{1, 0, 0}},
		{0x010203040506, 6, []byte{6, 5, 4, 3, 2, 1}},
		{0, 6, make([]byte, 6)},
	} {
		b, e := wire.Put(c.n, c.size)
		if e != api.OK || !bytes.Equal(b, c.b) {
			t.Errorf("Put(%d, %d): %v %d, not %v", c.n, c.size, b, e, c.b)
		}
	}
}

func TestPutAtTheEdgesOfEachSize(t *testing.T) {
	for size := 1; size <= 6; size++ {
		most := 1<<(8*size) - 1
		if b, e := wire.Put(most, size); e != api.OK || !bytes.Equal(b, bytes.Repeat([]byte{255}, size)) {
			t.Errorf("Put(%d, %d): %v %d", most, size, b, e)
		}
		if b, e := wire.Put(0, size); e != api.OK || !bytes.Equal(b, make([]byte, size)) {
			t.Errorf("Put(0, %d): %v %d", size, b, e)
		}
		for _, n := range []int{-1, most + 1, math.MinInt, math.MaxInt} {
			if b, e := wire.Put(n, size); len(b) != 0 || e != api.ErrRange {
				t.Errorf("Put(%d, %d): %v %d", n, size, b, e)
			}
		}
	}
}

func TestPutRefusesASizeAheadOfANumber(t *testing.T) {
	for _, size := range []int{0, 7, 8, -1, 64, math.MinInt, math.MaxInt} {
		for _, n := range []int{0, 1, -1, math.MinInt, math.MaxInt} {
			if b, e := wire.Put(n, size); len(b) != 0 || e != api.ErrArg {
				t.Errorf("Put(%d, %d): %v %d", n, size, b, e)
			}
		}
	}
}

func TestGet(t *testing.T) {
	b := []byte{1, 2, 3, 4, 5, 6, 255}
	checkGet(t, b, 0, 1, 1, 1, api.OK)
	checkGet(t, b, 0, 2, 0x0201, 2, api.OK)
	checkGet(t, b, 0, 6, 0x060504030201, 6, api.OK)
	checkGet(t, b, 1, 6, 0xFF0605040302, 7, api.OK)
	checkGet(t, b, 6, 1, 255, 7, api.OK)
	checkGet(t, bytes.Repeat([]byte{255}, 6), 0, 6, 1<<48-1, 6, api.OK)
}

func TestGetPastTheEnd(t *testing.T) {
	b := someBytes(9)
	for size := 1; size <= 6; size++ {
		for _, at := range []int{9 - size + 1, 9, 10, 1 << 40, math.MaxInt - 1, math.MaxInt} {
			checkGet(t, b, at, size, 0, 0, api.ErrEnd)
		}
		checkGet(t, nil, 0, size, 0, 0, api.ErrEnd)
		checkGet(t, []byte{}, 0, size, 0, 0, api.ErrEnd)
		checkGet(t, nil, math.MaxInt, size, 0, 0, api.ErrEnd)
		checkGet(t, b[:size-1], 0, size, 0, 0, api.ErrEnd)
	}
}

func TestGetDoesNotReadTheRoomBehindAList(t *testing.T) {
	b := someBytes(9)
	checkGet(t, b[:3], 2, 2, 0, 0, api.ErrEnd)
	checkGet(t, b[:0], 0, 1, 0, 0, api.ErrEnd)
}

func TestGetRefusesSizesAndPlacesAheadOfTheEnd(t *testing.T) {
	for _, b := range [][]byte{nil, someBytes(9)} {
		for _, size := range []int{0, 7, -1, math.MinInt, math.MaxInt} {
			for _, at := range []int{math.MinInt, -1, 0, 9, math.MaxInt} {
				checkGet(t, b, at, size, 0, 0, api.ErrArg)
			}
		}
		for size := 1; size <= 6; size++ {
			checkGet(t, b, -1, size, 0, 0, api.ErrArg)
			checkGet(t, b, -size, size, 0, 0, api.ErrArg)
			checkGet(t, b, math.MinInt, size, 0, 0, api.ErrArg)
		}
	}
}

// P104

func TestText(t *testing.T) {
	for _, c := range []struct {
		s string
		b []byte
	}{
		{"ab", []byte{2, 0, 97, 98}},
		{"", []byte{0, 0}},
		{"\x00\xff", []byte{2, 0, 0, 255}},
		{"é", []byte{2, 0, 0xC3, 0xA9}},
		{strings.Repeat("x", 258), append([]byte{2, 1}, bytes.Repeat([]byte("x"), 258)...)},
		{strings.Repeat("y", 65535), append([]byte{255, 255}, bytes.Repeat([]byte("y"), 65535)...)},
	} {
		b, e := wire.Text(c.s)
		if e != api.OK || !bytes.Equal(b, c.b) {
			t.Errorf("Text(%d bytes): %d bytes, %d", len(c.s), len(b), e)
		}
	}
}

func TestTextThatIsTooLong(t *testing.T) {
	for _, n := range []int{65536, 65537, 1 << 20} {
		if b, e := wire.Text(strings.Repeat("x", n)); len(b) != 0 || e != api.ErrSize {
			t.Errorf("Text(%d bytes): %d bytes, %d", n, len(b), e)
		}
	}
}

func TestGetText(t *testing.T) {
	b := []byte{2, 0, 97, 98, 0, 0}
	checkGetText(t, b, 0, "ab", 4, api.OK)
	checkGetText(t, b, 4, "", 6, api.OK)
	checkGetText(t, append([]byte{0, 1}, bytes.Repeat([]byte("x"), 256)...), 0, strings.Repeat("x", 256), 258, api.OK)
}

func TestGetTextThatIsNotThere(t *testing.T) {
	b := []byte{2, 0, 97, 98}
	for n := range len(b) {
		checkGetText(t, b[:n], 0, "", 0, api.ErrEnd)
	}
	for _, at := range []int{3, 4, 5, 1 << 40, math.MaxInt - 1, math.MaxInt} {
		checkGetText(t, b, at, "", 0, api.ErrEnd)
	}
	checkGetText(t, nil, 0, "", 0, api.ErrEnd)
	checkGetText(t, []byte{}, 0, "", 0, api.ErrEnd)
	checkGetText(t, nil, math.MaxInt, "", 0, api.ErrEnd)
	most := mustText(t, strings.Repeat("x", 65535))
	checkGetText(t, most[:len(most)-1], 0, "", 0, api.ErrEnd)
}

func TestGetTextRefusesAPlaceBelowZero(t *testing.T) {
	for _, b := range [][]byte{nil, {0, 0}, {2, 0, 97, 98}} {
		for _, at := range []int{-1, -2, -4, math.MinInt} {
			checkGetText(t, b, at, "", 0, api.ErrArg)
		}
	}
}

// P105

func TestFrame(t *testing.T) {
	for _, kind := range []int{0, 1, 7, 255} {
		for _, n := range []int{0, 1, 255, 256, 258, api.MaxBytes - 1, api.MaxBytes} {
			body := someBytes(n)
			told := around([]byte{byte(kind), byte(n), byte(n >> 8), byte(n >> 16), 0}, body, nil)
			sum := slowSum(told)
			want := append(told, byte(sum), byte(sum>>8), byte(sum>>16), byte(sum>>24))
			if b := mustFrame(t, kind, body); !bytes.Equal(b, want) {
				t.Errorf("Frame(%d, %d bytes): other bytes than the document says", kind, n)
			}
		}
	}
}

func TestFrameOfNothing(t *testing.T) {
	empty := mustFrame(t, 7, []byte{})
	if b := mustFrame(t, 7, nil); len(b) != 9 || !bytes.Equal(b[:5], []byte{7, 0, 0, 0, 0}) || !bytes.Equal(b, empty) {
		t.Errorf("Frame(7, nothing): %v, and %v", b, empty)
	}
}

func TestFrameRefusesAKindAheadOfABody(t *testing.T) {
	for _, kind := range []int{-1, 256, 257, math.MinInt, math.MaxInt} {
		for _, n := range []int{0, 3, api.MaxBytes + 1} {
			if b, e := wire.Frame(kind, make([]byte, n)); len(b) != 0 || e != api.ErrArg {
				t.Errorf("Frame(%d, %d bytes): %d bytes, %d", kind, n, len(b), e)
			}
		}
	}
}

func TestFrameOfABodyThatIsTooLong(t *testing.T) {
	for _, n := range []int{api.MaxBytes + 1, 2 * api.MaxBytes} {
		for _, kind := range []int{0, 255} {
			if b, e := wire.Frame(kind, make([]byte, n)); len(b) != 0 || e != api.ErrSize {
				t.Errorf("Frame(%d, %d bytes): %d bytes, %d", kind, n, len(b), e)
			}
		}
	}
}

func TestUnframeRefusesAPlaceBelowZero(t *testing.T) {
	b := mustFrame(t, 7, []byte("abc"))
	for _, at := range []int{-1, -12, math.MinInt} {
		checkUnframe(t, b, at, 0, nil, 0, api.ErrArg)
		checkUnframe(t, nil, at, 0, nil, 0, api.ErrArg)
	}
}

func TestUnframeWithoutAHead(t *testing.T) {
	b := []byte{7, 255, 255, 255, 255}
	for n := range len(b) {
		checkUnframe(t, b[:n], 0, 0, nil, 0, api.ErrEnd)
	}
	for _, at := range []int{1, 5, 6, 1 << 40, math.MaxInt - 4, math.MaxInt} {
		checkUnframe(t, b, at, 0, nil, 0, api.ErrEnd)
	}
	checkUnframe(t, nil, 0, 0, nil, 0, api.ErrEnd)
	checkUnframe(t, []byte{}, 0, 0, nil, 0, api.ErrEnd)
	checkUnframe(t, nil, math.MaxInt, 0, nil, 0, api.ErrEnd)
}

func TestUnframeOfALengthThatNoFrameHas(t *testing.T) {
	for _, head := range [][]byte{{7, 1, 0, 1, 0}, {7, 0, 0, 0, 1}, {0, 255, 255, 255, 255}, {255, 0, 0, 0, 128}} {
		checkUnframe(t, head, 0, 0, nil, 0, api.ErrForm)
		checkUnframe(t, append(head, make([]byte, api.MaxBytes+5)...), 0, 0, nil, 0, api.ErrForm)
	}
	checkUnframe(t, []byte{7, 0, 0, 1, 0}, 0, 0, nil, 0, api.ErrEnd)
}

func TestUnframeWithoutBodyOrSum(t *testing.T) {
	b := mustFrame(t, 7, []byte("abc"))
	for n := 5; n < len(b); n++ {
		checkUnframe(t, b[:n], 0, 0, nil, 0, api.ErrEnd)
	}
	b[5] ^= 1
	for n := 6; n < len(b); n++ {
		checkUnframe(t, b[:n], 0, 0, nil, 0, api.ErrEnd)
	}
}

func TestUnframeOfAnotherKindOrLength(t *testing.T) {
	b := mustFrame(t, 7, []byte("abcdefgh"))
	b[0] = 6
	checkUnframe(t, b, 0, 0, nil, 0, api.ErrSum)
	b[0], b[1] = 7, 7
	checkUnframe(t, b, 0, 0, nil, 0, api.ErrSum)
	b[1] = 9
	checkUnframe(t, b, 0, 0, nil, 0, api.ErrEnd)
}

// P106

func TestNumbersThereAndBack(t *testing.T) {
	for size := 1; size <= 6; size++ {
		most := 1<<(8*size) - 1
		for _, n := range []int{0, 1, most / 3, most / 2, most - 1, most} {
			b := mustPut(t, n, size)
			for _, ahead := range []int{0, 1, 300} {
				for _, behind := range []int{0, 1, 300} {
					all := around(someBytes(ahead), b, someBytes(behind))
					checkGet(t, all, ahead, size, n, ahead+size, api.OK)
				}
			}
		}
	}
}

func TestTextsThereAndBack(t *testing.T) {
	for _, n := range []int{0, 1, 2, 255, 256, 65534, 65535} {
		s := string(someBytes(n))
		b := mustText(t, s)
		for _, ahead := range []int{0, 1, 300} {
			for _, behind := range []int{0, 1, 300} {
				all := around(someBytes(ahead), b, someBytes(behind))
				checkGetText(t, all, ahead, s, ahead+2+n, api.OK)
			}
		}
	}
}

func TestFramesThereAndBack(t *testing.T) {
	for _, kind := range []int{0, 7, 255} {
		for _, n := range []int{0, 1, 2, 255, 256, api.MaxBytes - 1, api.MaxBytes} {
			body := someBytes(n)
			b := mustFrame(t, kind, body)
			for _, ahead := range []int{0, 1, 300} {
				for _, behind := range []int{0, 1, 300} {
					all := around(someBytes(ahead), b, someBytes(behind))
					checkUnframe(t, all, ahead, kind, body, ahead+n+9, api.OK)
				}
			}
		}
	}
}

func TestOneBehindTheOther(t *testing.T) {
	all := around(mustPut(t, 70000, 3), mustText(t, "ab"), mustFrame(t, 9, []byte("c")))
	checkGet(t, all, 0, 3, 70000, 3, api.OK)
	checkGetText(t, all, 3, "ab", 7, api.OK)
	checkUnframe(t, all, 7, 9, []byte("c"), 17, api.OK)
}

// P107

// turn turns the bits of pattern in b, from the bit at on, bits counted from each byte's lowest one.
func turn(b []byte, at int, pattern uint32) []byte {
	out := bytes.Clone(b)
	for i := range 32 {
		if pattern>>i&1 == 1 {
			out[(at+i)/8] ^= 1 << ((at + i) % 8)
		}
	}
	return out
}

func checkTurned(t *testing.T, frame []byte, at int, pattern uint32) {
	t.Helper()
	kind, body, to, e := wire.Unframe(turn(frame, at, pattern), 0)
	if kind != 0 || len(body) != 0 || to != 0 || e != api.ErrSum {
		t.Fatalf("Unframe(%d bytes, turned at bit %d by %x): %d, %d bytes, %d %d", len(frame), at, pattern, kind, len(body), to, e)
	}
}

func TestTurnedBitsAreTold(t *testing.T) {
	r := rand.New(rand.NewPCG(3, 4))
	for _, n := range []int{0, 1, 4, 37} {
		frame := mustFrame(t, 7, someBytes(n))
		end := 8 * len(frame)
		for at := 8 * 5; at < end; at++ {
			room := min(32, end-at)
			most := uint32(1<<room - 1)
			checkTurned(t, frame, at, 1)
			checkTurned(t, frame, at, most)
			checkTurned(t, frame, at, 1<<(room-1))
			for range 50 {
				checkTurned(t, frame, at, r.Uint32()&most|1)
			}
		}
	}
}

func TestTurnedBitsOfTheLongestFrameAreTold(t *testing.T) {
	frame := mustFrame(t, 255, someBytes(api.MaxBytes))
	for _, at := range []int{8 * 5, 8*1000 + 3, 8 * api.MaxBytes, 8*(api.MaxBytes+5) - 16, 8*len(frame) - 32} {
		checkTurned(t, frame, at, 1)
		checkTurned(t, frame, at, math.MaxUint32)
		checkTurned(t, frame, at, 0x80000001)
	}
}

// P108

func TestAFrameWithOneByteLess(t *testing.T) {
	for _, n := range []int{0, 1, 3, 256, api.MaxBytes} {
		frame := mustFrame(t, 7, someBytes(n))
		checkUnframe(t, frame[:len(frame)-1], 0, 0, nil, 0, api.ErrEnd)
		all := around(someBytes(11), frame[:len(frame)-1], nil)
		checkUnframe(t, all, 11, 0, nil, 0, api.ErrEnd)
	}
}

// P101

// TestArgumentsAreLeftAlone hands in pieces with room behind them and looks at all of it.
func TestArgumentsAreLeftAlone(t *testing.T) {
	all := around(mustFrame(t, 7, []byte("abc")), mustText(t, "xyz"), someBytes(64))
	was := bytes.Clone(all)
	for n := range len(all) {
		b := all[:n]
		wire.Crc(b)
		wire.Frame(1, b)
		for at := range n + 1 {
			wire.Get(b, at, 3)
			wire.GetText(b, at)
			wire.Unframe(b, at)
		}
	}
	if !bytes.Equal(all, was) {
		t.Error("an argument, or the room behind it, has changed")
	}
}

func fill(b []byte) {
	b = b[:cap(b)]
	for i := range b {
		b[i] = 170
	}
}

func TestAnswersAreNewMemory(t *testing.T) {
	for _, text := range []string{"", "abc", strings.Repeat("x", 300)} {
		frame, words := mustFrame(t, 7, []byte(text)), mustText(t, text)
		_, body, _, _ := wire.Unframe(frame, 0)
		fill(body)
		checkUnframe(t, frame, 0, 7, []byte(text), len(frame), api.OK)

		s, _, _ := wire.GetText(words, 0)
		_, kept, _, _ := wire.Unframe(frame, 0)
		fill(words)
		fill(frame)
		if s != text || string(kept) != text {
			t.Errorf("what was answered has changed with its argument: %q %q", s, kept)
		}

		arg := []byte(text)
		framed := mustFrame(t, 7, arg)
		fill(arg)
		checkUnframe(t, framed, 0, 7, []byte(text), len(framed), api.OK)
	}
}

func TestAnswersShareNothingWithEachOther(t *testing.T) {
	for _, answer := range []func() []byte{
		func() []byte { return mustPut(t, 258, 2) },
		func() []byte { return mustText(t, "ab") },
		func() []byte { return mustFrame(t, 7, nil) },
	} {
		first := answer()
		was := bytes.Clone(first)
		fill(answer())
		if !bytes.Equal(first, was) || !bytes.Equal(answer(), was) {
			t.Errorf("an answer has changed with another one: %v, not %v", first, was)
		}
	}
}

// TestNoArgumentsPanic asks about all that can be wrong, in all ways at once; a panic would end the test.
func TestNoArgumentsPanic(t *testing.T) {
	numbers := []int{math.MinInt, math.MinInt + 1, -7, -1, 0, 1, 5, 6, 7, 8, 9, 255, 256, 1 << 16, 1 << 48, math.MaxInt - 1, math.MaxInt}
	lists := [][]byte{nil, {}, {255}, someBytes(5), bytes.Repeat([]byte{255}, 9), make([]byte, 9), make([]byte, api.MaxBytes+10)}
	for _, b := range lists {
		wire.Crc(b)
		wire.Text(string(b))
		for _, x := range numbers {
			wire.Frame(x, b)
			wire.GetText(b, x)
			wire.Unframe(b, x)
			for _, y := range numbers {
				wire.Get(b, x, y)
				wire.Put(x, y)
			}
		}
	}
}
