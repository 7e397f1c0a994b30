package ledger_test

import (
	"bytes"
	"encoding/binary"
	"hash/crc32"
	"math"
	"slices"
	"strings"
	"testing"

	"gazette/api"
	"gazette/batch"
	"gazette/ledger"
)

// framed does what P105 says, whatever the kind and the body are.
func framed(kind int, body []byte) []byte {
	b := binary.LittleEndian.AppendUint32([]byte{byte(kind)}, uint32(len(body)))
	b = append(b, body...)
	return binary.LittleEndian.AppendUint32(b, crc32.Checksum(b, crc32.MakeTable(crc32.Castagnoli)))
}

func encoded(t *testing.T, b api.Batch) []byte {
	t.Helper()
	x, e := batch.Encode(b)
	if e != api.OK {
		t.Fatalf("Encode(%v): %d", b, e)
	}
	return x
}

func mustPut(t *testing.T, x ledger.Entry) []byte {
	t.Helper()
	b, e := ledger.PutEntry(x)
	if e != api.OK {
		t.Fatalf("PutEntry(%s): %d", brief(x), e)
	}
	return b
}

// great is a batch of just so many bytes.
func great(n int) api.Batch {
	b := api.Batch{Kind: api.Plain, Producer: -1}
	for left := n - 18; left > 0; {
		size := min(left, 5000)
		if rest := left - size; rest > 0 && rest < 5 {
			size -= 5
		}
		key := min(size-5, 1000)
		b.Records = append(b.Records, api.Record{Key: strings.Repeat("k", key), Value: strings.Repeat("v", size-5-key)})
		left -= size
	}
	return b
}

// right has entries that may be, at the edges.
func right() []ledger.Entry {
	list := []ledger.Entry{
		nobodys("k"), nobodys("", "!", "!k", "k"), out(0, 0, "k"), in(0, 0, "k"),
		out(1, 0, make([]string, api.MaxBatch)...), out(1, api.MaxSeq-1, "k"), at(topEpoch, in(topProducer, api.MaxSeq-2, "\xff", "\x00")),
		commit(0), abort(0), at(topEpoch, commit(topProducer)), at(topEpoch, abort(topProducer)),
		entry(great(api.MaxBytes)), entry(great(api.MaxBytes - 1)),
	}
	for _, n := range []int{0, 1, 255, 256, 1<<47 + 5, 0x060504030201, api.MaxNumber - 1, api.MaxNumber} {
		list = append(list, retain(n), compact(n))
	}
	return list
}

// P1302

func TestPutEntryOfNumbers(t *testing.T) {
	for _, c := range []struct {
		n    int
		body []byte
	}{
		{0, []byte{0, 0, 0, 0, 0, 0}},
		{1, []byte{1, 0, 0, 0, 0, 0}},
		{258, []byte{2, 1, 0, 0, 0, 0}},
		{0x060504030201, []byte{1, 2, 3, 4, 5, 6}},
		{api.MaxNumber - 1, []byte{255, 255, 255, 255, 255, 255}},
		{api.MaxNumber, []byte{0, 0, 0, 0, 0, 0, 1}},
	} {
		for kind, x := range map[int]ledger.Entry{17: retain(c.n), 18: compact(c.n)} {
			if b := mustPut(t, x); !bytes.Equal(b, framed(kind, c.body)) {
				t.Errorf("PutEntry(%s): %v, not %v", brief(x), b, framed(kind, c.body))
			}
		}
	}
	if b := mustPut(t, retain(0)); !bytes.Equal(b[:11], []byte{17, 6, 0, 0, 0, 0, 0, 0, 0, 0, 0}) || len(b) != 15 {
		t.Errorf("PutEntry of Retain 0: %v", b)
	}
}

func TestPutEntryOfBatches(t *testing.T) {
	for _, x := range right() {
		if x.Kind != ledger.Batches {
			continue
		}
		if b := mustPut(t, x); !bytes.Equal(b, framed(16, encoded(t, x.Batch))) {
			t.Errorf("PutEntry(%s): other bytes than the document says", brief(x))
		}
	}
	if b := mustPut(t, entry(great(api.MaxBytes))); len(b) != api.MaxBytes+9 {
		t.Errorf("the greatest entry has %d bytes", len(b))
	}
}

func TestPutEntryOfWhatMayNotBe(t *testing.T) {
	for name, x := range wrong() {
		if b, e := ledger.PutEntry(x); len(b) != 0 || e != api.ErrArg {
			t.Errorf("%s: PutEntry(%s): %v, %d", name, brief(x), b, e)
		}
	}
	x := entry(great(api.MaxBytes + 1))
	if b, e := ledger.PutEntry(x); len(b) != 0 || e != api.ErrArg {
		t.Errorf("one byte too many: PutEntry(%s): %d bytes, %d", brief(x), len(b), e)
	}
}

// TestAnEmptyListIsAZeroBatchToo: nil and empty mean the same.
func TestAnEmptyListIsAZeroBatchToo(t *testing.T) {
	for _, x := range []ledger.Entry{retain(0), compact(0), commit(1)} {
		want := mustPut(t, x)
		x.Batch.Records = []api.Record{}
		if b := mustPut(t, x); !bytes.Equal(b, want) {
			t.Errorf("PutEntry(%s) with an empty list: %v, not %v", brief(x), b, want)
		}
		if _, _, e := mustNew(t).Decide(x); e != api.OK {
			t.Errorf("Decide(%s) with an empty list: %d", brief(x), e)
		}
	}
}

func checkNoEntry(t *testing.T, name string, b []byte) {
	t.Helper()
	if x, e := ledger.GetEntry(b); e != api.ErrForm || !same(x, ledger.Entry{}) {
		t.Errorf("%s: GetEntry(%d bytes): %s, %d", name, len(b), brief(x), e)
	}
}

func TestGetEntryOfBytesThatAreCutOffOrGoOn(t *testing.T) {
	checkNoEntry(t, "nil", nil)
	checkNoEntry(t, "empty", []byte{})
	for _, x := range right() {
		b := mustPut(t, x)
		if len(b) > 2000 {
			checkNoEntry(t, "one byte less", b[:len(b)-1])
		} else {
			for n := range b {
				checkNoEntry(t, "cut off", b[:n])
			}
		}
		checkNoEntry(t, "a byte behind", append(slices.Clone(b), 0))
		checkNoEntry(t, "another one behind", append(slices.Clone(b), mustPut(t, retain(0))...))
		checkNoEntry(t, "a byte ahead", append([]byte{0}, b...))
	}
}

func TestGetEntryOfOtherKinds(t *testing.T) {
	for _, x := range right() {
		b := mustPut(t, x)
		body := b[5 : len(b)-4]
		if len(body) > 2000 {
			continue
		}
		for kind := range 256 {
			number := (kind == 17 || kind == 18) && x.Kind != ledger.Batches
			if number || kind == 16 && x.Kind == ledger.Batches {
				continue
			}
			checkNoEntry(t, "another kind", framed(kind, body))
		}
	}
}

func TestGetEntryWithAnotherSum(t *testing.T) {
	for _, x := range right() {
		b := mustPut(t, x)
		for i := range min(len(b), 60) {
			for bit := range 8 {
				turned := slices.Clone(b)
				turned[len(b)-1-i] ^= 1 << bit
				checkNoEntry(t, "a bit turned", turned)
			}
		}
	}
}

func TestGetEntryOfNumbersThatMayNotBe(t *testing.T) {
	for _, kind := range []int{17, 18} {
		for n := range 20 {
			for _, last := range []byte{0, 1, 2, 255} {
				body := make([]byte, n)
				if n > 0 {
					body[n-1] = last
				}
				if n == 6 || n == 7 && last == 1 {
					continue
				}
				checkNoEntry(t, "a number of other bytes", framed(kind, body))
			}
		}
		for i := range 6 {
			body := []byte{0, 0, 0, 0, 0, 0, 1}
			body[i] = 1
			checkNoEntry(t, "above MaxNumber", framed(kind, body))
		}
		checkNoEntry(t, "MaxNumber, and a byte", framed(kind, []byte{0, 0, 0, 0, 0, 0, 1, 0}))
	}
}

func TestGetEntryOfBatchesThatMayNotBe(t *testing.T) {
	plain := encoded(t, nobodys("k").Batch)
	change := func(at int, to byte) []byte {
		b := slices.Clone(plain)
		b[at] = to
		return framed(16, b)
	}
	checkNoEntry(t, "no batch", framed(16, nil))
	checkNoEntry(t, "Kind 4", change(0, 4))
	checkNoEntry(t, "nobody InTxn", change(1, 2))
	checkNoEntry(t, "nobody's Epoch", change(8, 1))
	checkNoEntry(t, "no Records", change(16, 0))
	checkNoEntry(t, "two Records told", change(16, 2))
	checkNoEntry(t, "Dead 2", change(18, 2))
	checkNoEntry(t, "a batch cut off", framed(16, plain[:len(plain)-1]))
	checkNoEntry(t, "a batch, and a byte", framed(16, append(slices.Clone(plain), 0)))
	checkNoEntry(t, "more than MaxBytes are told", framed(16, make([]byte, api.MaxBytes+1)))
}

// P1307

func checkThereAndBack(t *testing.T, x ledger.Entry) {
	t.Helper()
	b := mustPut(t, x)
	back, e := ledger.GetEntry(b)
	if e != api.OK || !same(back, x) {
		t.Errorf("GetEntry of PutEntry(%s): %s, %d", brief(x), brief(back), e)
		return
	}
	if again := mustPut(t, back); !bytes.Equal(again, b) {
		t.Errorf("PutEntry of GetEntry of %s: other bytes", brief(x))
	}
}

func TestThereAndBack(t *testing.T) {
	for _, x := range right() {
		checkThereAndBack(t, x)
	}
	d := diceOf(13, 7)
	for range 3000 {
		checkThereAndBack(t, d.anyEntry())
	}
}

// anyEntry is one that may be, whatever a ledger says to it.
func (d dice) anyEntry() ledger.Entry {
	keys := make([]string, 1+d.IntN(9))
	for i := range keys {
		keys[i] = pick(d, "", "!", "a", "!a", "\x00", "long key", strings.Repeat("z", d.IntN(1000)))
	}
	switch d.IntN(6) {
	case 0:
		return nobodys(keys...)
	case 1:
		return at(d.IntN(topEpoch+1), in(d.IntN(api.MaxNumber), d.IntN(api.MaxSeq-9), keys...))
	case 2:
		return at(d.IntN(topEpoch+1), out(d.IntN(api.MaxNumber), d.IntN(api.MaxSeq-9), keys...))
	case 3:
		return at(d.IntN(topEpoch+1), marker(pick(d, api.Commit, api.Abort), d.IntN(api.MaxNumber)))
	case 4:
		return retain(d.IntN(api.MaxNumber + 1))
	}
	return compact(d.IntN(api.MaxNumber + 1))
}

// TestGetEntryOfBytesThatWereChanged: whatever is got is just what is put as these bytes.
func TestGetEntryOfBytesThatWereChanged(t *testing.T) {
	d := diceOf(13, 2)
	seen := map[api.Errno]int{}
	for range 40000 {
		b := mustPut(t, d.anyEntry())
		kind, body := int(b[0]), b[5:len(b)-4]
		for range d.IntN(3) {
			body[d.IntN(min(len(body), 20))] = byte(pick(d, 0, 1, 2, 3, 255, d.IntN(256)))
		}
		switch d.IntN(8) {
		case 0:
			body = body[:d.IntN(len(body)+1)]
		case 1:
			body = append(body[:len(body):len(body)], make([]byte, d.IntN(3))...)
		case 2:
			kind = pick(d, 15, 16, 17, 18, 19, d.IntN(256))
		}
		b = framed(kind, body)
		x, e := ledger.GetEntry(b)
		want := api.ErrForm
		if isEntry(kind, body) {
			want = api.OK
		}
		if e != want {
			t.Fatalf("GetEntry(% x): %d, not %d", b, e, want)
		}
		if e == api.OK && !bytes.Equal(mustPut(t, x), b) || e != api.OK && !same(x, ledger.Entry{}) {
			t.Fatalf("GetEntry(% x): %s", b, brief(x))
		}
		seen[e]++
	}
	if seen[api.OK] < 3000 || seen[api.ErrForm] < 3000 {
		t.Errorf("too few of one kind: %v", seen)
	}
}

// isEntry does what P1302 says, word by word.
func isEntry(kind int, body []byte) bool {
	switch kind {
	case 16:
		_, e := batch.Decode(body)
		return e == api.OK
	case 17, 18:
		return len(body) == 6 || bytes.Equal(body, []byte{0, 0, 0, 0, 0, 0, 1})
	}
	return false
}

// What is handed in and answered

func TestEntriesShareNothing(t *testing.T) {
	room := make([]api.Record, 5)
	for i := range room {
		room[i] = api.Record{Key: "room"}
	}
	copy(room, records("a", "!b"))
	x := ledger.Entry{Kind: ledger.Batches, Batch: api.Batch{Kind: api.Plain, Producer: -1, Records: room[:2]}}
	was := slices.Clone(room)
	b, other := mustPut(t, x), mustPut(t, x)
	if !slices.Equal(room, was) {
		t.Errorf("PutEntry changed its batch: %v", room)
	}
	for i := range room {
		room[i] = api.Record{Key: "other"}
	}
	if !bytes.Equal(b, mustPut(t, nobodys("a", "!b"))) {
		t.Errorf("PutEntry: %v", b)
	}
	clear(b[:cap(b)])
	if !bytes.Equal(other, mustPut(t, nobodys("a", "!b"))) {
		t.Errorf("two answers of PutEntry share memory: %v", other)
	}
}

func TestGotEntriesShareNothing(t *testing.T) {
	b := append(make([]byte, 0, 200), mustPut(t, nobodys("a", "!b"))...)
	for i := range b[len(b):cap(b)] {
		b[len(b):cap(b)][i] = 7
	}
	was := slices.Clone(b[:cap(b)])
	x, _ := ledger.GetEntry(b)
	y, _ := ledger.GetEntry(b)
	if !bytes.Equal(b[:cap(b)], was) {
		t.Errorf("GetEntry changed its bytes: %v", b[:cap(b)])
	}
	clear(b[:cap(b)])
	list := x.Batch.Records[:cap(x.Batch.Records)]
	if !same(x, nobodys("a", "!b")) {
		t.Errorf("GetEntry kept its bytes: %v", x)
	}
	for i := range list {
		list[i] = api.Record{Key: "other"}
	}
	if !same(y, nobodys("a", "!b")) {
		t.Errorf("two answers of GetEntry share memory: %v", y)
	}
}

// TestHugeKinds: a Kind that would wrap round to one that may be is none.
func TestHugeKinds(t *testing.T) {
	for _, kind := range []int{math.MinInt, math.MinInt + 1, math.MaxInt, 1 + 1<<8, 1 + 1<<32, 2 - 1<<32, -1, -15, -14} {
		for _, x := range []ledger.Entry{{Kind: kind}, {Kind: kind, N: 5}, {Kind: kind, Batch: nobodys("k").Batch}} {
			if b, e := ledger.PutEntry(x); len(b) != 0 || e != api.ErrArg {
				t.Errorf("PutEntry(%s): %v, %d", brief(x), b, e)
			}
		}
	}
}
