package acceptor_test

import (
	"bytes"
	"encoding/binary"
	"hash/crc32"
	"math"
	"math/rand/v2"
	"slices"
	"testing"

	"gazette/acceptor"
	"gazette/api"
)

const (
	maxValue   = 4000
	lastNumber = api.MaxNumber - 1

	askFrame    = 3
	answerFrame = 4
)

// frame tells a frame by the library's own sum.
func frame(kind byte, body []byte) []byte {
	b := binary.LittleEndian.AppendUint32([]byte{kind}, uint32(len(body)))
	b = append(b, body...)
	return binary.LittleEndian.AppendUint32(b, crc32.Checksum(b, crc32.MakeTable(crc32.Castagnoli)))
}

// low tells the lowest size bytes of n, whatever n is.
func low(n, size int) []byte {
	return binary.LittleEndian.AppendUint64(nil, uint64(n))[:size]
}

// askBytes tells a also where it may not be, by as many bytes as a number has.
func askBytes(a acceptor.Ask) []byte {
	return frame(askFrame, slices.Concat(low(a.Kind, 1), low(a.Key, 6), low(a.Version, 6), low(a.Ballot, 6), a.Value))
}

// answerBytes tells a with any byte as its Learned.
func answerBytes(a acceptor.Answer, learned byte) []byte {
	return frame(answerFrame, slices.Concat(low(int(a.E), 1), low(a.Version, 6), low(a.Promised, 6), low(a.Ballot, 6), []byte{learned}, a.Value))
}

func filled(x byte, size int) []byte { return bytes.Repeat([]byte{x}, size) }

func sameAsk(a, b acceptor.Ask) bool {
	return a.Kind == b.Kind && a.Key == b.Key && a.Version == b.Version && a.Ballot == b.Ballot && bytes.Equal(a.Value, b.Value)
}

func sameAnswer(a, b acceptor.Answer) bool {
	return a.E == b.E && a.Version == b.Version && a.Promised == b.Promised && a.Ballot == b.Ballot &&
		a.Learned == b.Learned && bytes.Equal(a.Value, b.Value)
}

// head keeps what a failure tells short.
func head(b []byte) []byte { return b[:min(len(b), 40)] }

// shortAsk, shortAnswer: so does a short value.
func shortAsk(a acceptor.Ask) acceptor.Ask {
	a.Value = head(a.Value)
	return a
}

func shortAnswer(a acceptor.Answer) acceptor.Answer {
	a.Value = head(a.Value)
	return a
}

func checkPutAsk(t *testing.T, a acceptor.Ask, want []byte) {
	t.Helper()
	if b, e := acceptor.PutAsk(a); e != api.OK || !bytes.Equal(b, want) {
		t.Errorf("PutAsk(%v): %x, %d, not %x", shortAsk(a), head(b), e, head(want))
	}
}

func checkNoPutAsk(t *testing.T, a acceptor.Ask) {
	t.Helper()
	if b, e := acceptor.PutAsk(a); e != api.ErrArg || len(b) != 0 {
		t.Errorf("PutAsk(%v, %d bytes): %x, %d, not ErrArg", shortAsk(a), len(a.Value), head(b), e)
	}
}

func checkGetAsk(t *testing.T, b []byte, want acceptor.Ask) {
	t.Helper()
	if a, e := acceptor.GetAsk(b); e != api.OK || !sameAsk(a, want) {
		t.Errorf("GetAsk(%x): %v, %d, not %v", head(b), shortAsk(a), e, shortAsk(want))
	}
}

func checkNoGetAsk(t *testing.T, b []byte) {
	t.Helper()
	if a, e := acceptor.GetAsk(b); e != api.ErrForm || !sameAsk(a, acceptor.Ask{}) {
		t.Errorf("GetAsk(%x): %v, %d, not ErrForm", head(b), shortAsk(a), e)
	}
}

func checkPutAnswer(t *testing.T, a acceptor.Answer, want []byte) {
	t.Helper()
	if b, e := acceptor.PutAnswer(a); e != api.OK || !bytes.Equal(b, want) {
		t.Errorf("PutAnswer(%v): %x, %d, not %x", shortAnswer(a), head(b), e, head(want))
	}
}

func checkNoPutAnswer(t *testing.T, a acceptor.Answer) {
	t.Helper()
	if b, e := acceptor.PutAnswer(a); e != api.ErrArg || len(b) != 0 {
		t.Errorf("PutAnswer(%v, %d bytes): %x, %d, not ErrArg", shortAnswer(a), len(a.Value), head(b), e)
	}
}

func checkGetAnswer(t *testing.T, b []byte, want acceptor.Answer) {
	t.Helper()
	if a, e := acceptor.GetAnswer(b); e != api.OK || !sameAnswer(a, want) {
		t.Errorf("GetAnswer(%x): %v, %d, not %v", head(b), shortAnswer(a), e, shortAnswer(want))
	}
}

func checkNoGetAnswer(t *testing.T, b []byte) {
	t.Helper()
	if a, e := acceptor.GetAnswer(b); e != api.ErrForm || !sameAnswer(a, acceptor.Answer{}) {
		t.Errorf("GetAnswer(%x): %v, %d, not ErrForm", head(b), shortAnswer(a), e)
	}
}

func TestKinds(t *testing.T) {
	got := [...]int{acceptor.Prepare, acceptor.Accept, acceptor.Learn, acceptor.Query}
	if got != [...]int{1, 2, 3, 4} {
		t.Errorf("kinds: %v", got)
	}
}

// P802: Asks

func TestBytesOfAnAsk(t *testing.T) {
	a := acceptor.Ask{Kind: acceptor.Accept, Key: 0x060504030201, Version: 0x0c0b0a090807, Ballot: 0x1211100f0e0d, Value: []byte("ab")}
	want := frame(3, []byte{2, 1, 2, 3, 4, 5, 6, 7, 8, 9, 10, 11, 12, 13, 14, 15, 16, 17, 18, 'a', 'b'})
	checkPutAsk(t, a, want)
	checkGetAsk(t, want, a)
	none := frame(3, append([]byte{4}, make([]byte, 18)...))
	checkPutAsk(t, acceptor.Ask{Kind: acceptor.Query}, none)
	checkPutAsk(t, acceptor.Ask{Kind: acceptor.Query, Value: []byte{}}, none)
	checkGetAsk(t, none, acceptor.Ask{Kind: acceptor.Query})
}

// mayAsk tells which Asks of a kind may be, by a table that the limits are written out in.
func mayAsk(a acceptor.Ask) bool {
	type limit struct{ least, most int }
	limits := map[int]struct {
		version, ballot limit
		value           int
	}{
		1: {limit{1, 1<<48 - 1}, limit{1, 1<<48 - 1}, 0},
		2: {limit{1, 1<<48 - 1}, limit{1, 1<<48 - 1}, 4000},
		3: {limit{1, 1<<48 - 1}, limit{0, 0}, 4000},
		4: {limit{0, 0}, limit{0, 0}, 0},
	}
	l, kind := limits[a.Kind]
	return kind && a.Key >= 0 && a.Key <= 1<<48-1 &&
		a.Version >= l.version.least && a.Version <= l.version.most &&
		a.Ballot >= l.ballot.least && a.Ballot <= l.ballot.most &&
		len(a.Value) <= l.value
}

// edges are the numbers at which something may be or not.
func edges() []int {
	return []int{math.MinInt, -1, 0, 1, 2, lastNumber, api.MaxNumber, api.MaxNumber + 1, math.MaxInt}
}

func TestEveryEdgeOfAnAsk(t *testing.T) {
	may := map[int]int{}
	for _, kind := range []int{math.MinInt, -252, -1, 0, 1, 2, 3, 4, 5, 6, 255, 257, math.MaxInt} {
		for _, key := range edges() {
			for _, version := range edges() {
				for _, ballot := range edges() {
					for _, size := range []int{0, 1, maxValue, maxValue + 1} {
						if size > 1 && key > 1 {
							continue
						}
						a := acceptor.Ask{Kind: kind, Key: key, Version: version, Ballot: ballot, Value: filled(9, size)}
						if !mayAsk(a) {
							checkNoPutAsk(t, a)
							continue
						}
						may[kind]++
						checkPutAsk(t, a, askBytes(a))
						checkGetAsk(t, askBytes(a), a)
					}
				}
			}
		}
	}
	if len(may) != 4 {
		t.Errorf("so many of each kind may be: %v", may)
	}
	checkNoPutAsk(t, acceptor.Ask{Kind: acceptor.Accept, Version: 1, Ballot: 1, Value: filled(1, 1<<17)})
	checkNoPutAsk(t, acceptor.Ask{Kind: acceptor.Learn, Version: 1, Value: filled(1, api.MaxBytes)})
	checkNoPutAsk(t, acceptor.Ask{})
}

func TestBytesOfAnAskThatMayNotBe(t *testing.T) {
	for _, kind := range []int{0, 1, 2, 3, 4, 5, 255} {
		for _, version := range []int{0, 1, lastNumber} {
			for _, ballot := range []int{0, 1, lastNumber} {
				for _, size := range []int{0, 1, maxValue, maxValue + 1, api.MaxBytes - 19} {
					a := acceptor.Ask{Kind: kind, Version: version, Ballot: ballot, Value: filled(9, size)}
					if mayAsk(a) {
						checkGetAsk(t, askBytes(a), a)
					} else {
						checkNoGetAsk(t, askBytes(a))
					}
				}
			}
		}
	}
}

// checkNoOther has whatever is near to the frame of that kind and body, and is none.
func checkNoOther(t *testing.T, kind byte, body []byte, least int, checkNone func(*testing.T, []byte)) {
	t.Helper()
	whole := frame(kind, body)
	for n := range len(whole) {
		checkNone(t, whole[:n])
	}
	for n := range least {
		checkNone(t, frame(kind, body[:n]))
	}
	for other := range 256 {
		if byte(other) != kind {
			checkNone(t, frame(byte(other), body))
		}
	}
	for i := range whole {
		for bit := range 8 {
			turned := slices.Clone(whole)
			turned[i] ^= 1 << bit
			checkNone(t, turned)
		}
	}
	checkNone(t, append(slices.Clone(whole), 0))
	checkNone(t, slices.Concat(whole, whole))
	checkNone(t, append([]byte{0}, whole...))
	checkNone(t, []byte{})
	checkNone(t, filled(255, 40))
	checkNone(t, make([]byte, 1<<17))
}

func TestBytesThatAreNoAsk(t *testing.T) {
	body := []byte{2, 0, 0, 0, 0, 0, 0, 1, 0, 0, 0, 0, 0, 1, 0, 0, 0, 0, 0, 'a'}
	checkGetAsk(t, frame(3, body), acceptor.Ask{Kind: acceptor.Accept, Version: 1, Ballot: 1, Value: []byte("a")})
	checkGetAsk(t, frame(3, body[:19]), acceptor.Ask{Kind: acceptor.Accept, Version: 1, Ballot: 1})
	checkNoOther(t, 3, body, 19, checkNoGetAsk)
}

// P802: Answers

func TestBytesOfAnAnswer(t *testing.T) {
	a := acceptor.Answer{E: api.ErrStale, Version: 0x060504030201, Promised: 0x0c0b0a090807, Ballot: 0x1211100f0e0d, Learned: true, Value: []byte("ab")}
	want := frame(4, []byte{34, 1, 2, 3, 4, 5, 6, 7, 8, 9, 10, 11, 12, 13, 14, 15, 16, 17, 18, 1, 'a', 'b'})
	checkPutAnswer(t, a, want)
	checkGetAnswer(t, want, a)
	zero := frame(4, make([]byte, 20))
	checkPutAnswer(t, acceptor.Answer{}, zero)
	checkPutAnswer(t, acceptor.Answer{Value: []byte{}}, zero)
	checkGetAnswer(t, zero, acceptor.Answer{})
}

func TestEveryEdgeOfAnAnswer(t *testing.T) {
	may := func(n int) bool { return n >= 0 && n <= 1<<48-1 }
	for _, e := range []int{math.MinInt, -256, -1, 0, 1, 22, 255, 256, math.MaxInt} {
		for _, version := range edges() {
			for _, promised := range edges() {
				for _, ballot := range edges() {
					for learned, is := range []bool{false, true} {
						a := acceptor.Answer{E: api.Errno(e), Version: version, Promised: promised, Ballot: ballot, Learned: is, Value: []byte("v")}
						if e < 0 || e > 255 || !may(version) || !may(promised) || !may(ballot) {
							checkNoPutAnswer(t, a)
							continue
						}
						checkPutAnswer(t, a, answerBytes(a, byte(learned)))
						checkGetAnswer(t, answerBytes(a, byte(learned)), a)
					}
				}
			}
		}
	}
	for _, size := range []int{0, 1, maxValue} {
		a := acceptor.Answer{Version: 1, Value: filled(9, size)}
		checkPutAnswer(t, a, answerBytes(a, 0))
		checkGetAnswer(t, answerBytes(a, 0), a)
	}
	for _, size := range []int{maxValue + 1, api.MaxBytes, 1 << 17} {
		checkNoPutAnswer(t, acceptor.Answer{Version: 1, Value: filled(9, size)})
	}
}

func TestBytesOfAnAnswerThatMayNotBe(t *testing.T) {
	checkNoGetAnswer(t, answerBytes(acceptor.Answer{Value: filled(1, maxValue+1)}, 0))
	checkNoGetAnswer(t, answerBytes(acceptor.Answer{Value: filled(1, api.MaxBytes-20)}, 1))
	for learned := 2; learned < 256; learned++ {
		checkNoGetAnswer(t, answerBytes(acceptor.Answer{Version: 1, Value: []byte("a")}, byte(learned)))
	}
}

func TestBytesThatAreNoAnswer(t *testing.T) {
	body := append(make([]byte, 20), 'a')
	body[1], body[19] = 1, 1
	checkGetAnswer(t, frame(4, body), acceptor.Answer{Version: 1, Learned: true, Value: []byte("a")})
	checkGetAnswer(t, frame(4, body[:20]), acceptor.Answer{Version: 1, Learned: true})
	checkNoOther(t, 4, body, 20, checkNoGetAnswer)
}

// TestBytesThatAreGot puts again whatever bytes are got: bodies are such that many of them are near to one that may be.
func TestBytesThatAreGot(t *testing.T) {
	r := rand.New(rand.NewPCG(8, 2))
	asks, answers := 0, 0
	for range 20000 {
		body := make([]byte, 17+r.IntN(6))
		for i := range body {
			body[i] = byte(r.IntN(4) * r.IntN(2))
		}
		b := frame(byte(askFrame+r.IntN(2)), body)
		if a, e := acceptor.GetAsk(b); e == api.OK {
			asks++
			checkPutAsk(t, a, b)
		}
		if a, e := acceptor.GetAnswer(b); e == api.OK {
			answers++
			checkPutAnswer(t, a, b)
		}
	}
	if asks < 100 || answers < 100 {
		t.Errorf("only %d asks and %d answers were got", asks, answers)
	}
}

// P801: what is handed in, what is answered

// roomy answers data with room behind it that is not zeros.
func roomy(data string) []byte {
	b := []byte(data + "room behind")
	return b[:len(data)]
}

func checkRoom(t *testing.T, b []byte, data string) {
	t.Helper()
	if got := string(b[:len(data)+len("room behind")]); got != data+"room behind" {
		t.Errorf("what was handed in is %q now", got)
	}
}

// spoil overwrites b and the room behind it. A second time it mends them.
func spoil(b []byte) {
	b = b[:cap(b)]
	for i := range b {
		b[i] ^= 255
	}
}

func TestBytesShareNothing(t *testing.T) {
	ask := acceptor.Ask{Kind: acceptor.Learn, Version: 1, Value: roomy("data")}
	answer := acceptor.Answer{Version: 1, Value: ask.Value}
	b, _ := acceptor.PutAsk(ask)
	c, _ := acceptor.PutAnswer(answer)
	checkRoom(t, ask.Value, "data")
	spoil(ask.Value)
	checkGetAsk(t, b, acceptor.Ask{Kind: acceptor.Learn, Version: 1, Value: []byte("data")})
	checkGetAnswer(t, c, acceptor.Answer{Version: 1, Value: []byte("data")})
	spoil(ask.Value)
	spoil(b)
	spoil(c)
	checkRoom(t, ask.Value, "data")
	checkPutAsk(t, ask, askBytes(ask))
	checkPutAnswer(t, answer, answerBytes(answer, 0))
}

func TestWhatIsGotSharesNothing(t *testing.T) {
	told := string(askBytes(acceptor.Ask{Kind: acceptor.Learn, Version: 1, Value: []byte("data")}))
	b := roomy(told)
	ask, _ := acceptor.GetAsk(b)
	again, _ := acceptor.GetAsk(b)
	checkRoom(t, b, told)
	spoil(b)
	spoil(again.Value)
	if string(ask.Value) != "data" {
		t.Errorf("the Ask has %q now", ask.Value)
	}
	spoil(b)
	spoil(ask.Value)
	checkRoom(t, b, told)

	told = string(answerBytes(acceptor.Answer{Value: []byte("data")}, 0))
	b = roomy(told)
	answer, _ := acceptor.GetAnswer(b)
	other, _ := acceptor.GetAnswer(b)
	checkRoom(t, b, told)
	spoil(b)
	spoil(other.Value)
	if string(answer.Value) != "data" {
		t.Errorf("the Answer has %q now", answer.Value)
	}
	spoil(b)
	spoil(answer.Value)
	checkRoom(t, b, told)
}
