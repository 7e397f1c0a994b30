package producer_test

import (
	"math"
	"slices"
	"testing"

	"gazette/api"
	"gazette/producer"
)

// P1204

func TestEntriesOfAnEmptyTable(t *testing.T) {
	checkEntries(t, mustNew(t))
	checkEntries(t, mustLoad(t))
	for _, l := range [][]producer.Entry{nil, {}} {
		checkEntries(t, mustLoad(t, l...))
		checkOK(t, mustLoad(t, l...), of(1, 0, 0, 1))
	}
}

func TestEntriesAreInOrder(t *testing.T) {
	ids := []int{5, topProducer, 0, 3, 1 << 40, 1, 4, 2, 1 << 33, 1<<33 - 1}
	x := mustNew(t)
	var want []producer.Entry
	for i, id := range ids {
		mustNote(t, x, of(id, i, 0, i+1), 10*i)
		want = append(want, entry(id, i, i+1, done(0, i+1, 10*i)))
	}
	slices.SortFunc(want, func(a, b producer.Entry) int { return a.Producer - b.Producer })
	for range 20 {
		checkEntries(t, x, want...)
	}
}

func TestEntriesOfMany(t *testing.T) {
	x := mustNew(t)
	var want []producer.Entry
	for i := range 3000 {
		id := i * 7919 % 3000 // each once, in no order
		mustNote(t, x, of(id, 0, 0, 1), id)
		want = append(want, entry(i, 0, 1, done(0, 1, i)))
	}
	checkEntries(t, x, want...)
	checkEntries(t, mustLoad(t, want...), want...)
}

// good has entries that may be, one by one.
func good() []producer.Entry {
	var full []producer.Done
	for i := range api.Window {
		full = append(full, done(10+3*i, 3, 7*i))
	}
	return []producer.Entry{
		entry(0, 0, 0),
		{Producer: 0, Last: []producer.Done{}},
		entry(topProducer, 0, 0),
		entry(1, topEpoch, 0),
		entry(1, 0, 1),
		entry(1, 0, api.MaxSeq),
		entry(1, 0, 1, done(0, 1, 0)),
		entry(1, 0, 1, done(0, 1, api.MaxNumber)),
		entry(1, 0, 64, done(0, api.MaxBatch, 0)),
		entry(1, 0, 90, done(26, api.MaxBatch, 5)),
		entry(1, 0, 4, done(0, 1, 9), done(1, 3, 9)),
		entry(1, 0, 4, done(0, 1, 9), done(1, 3, 8)),
		entry(1, 0, 25, full...),
		entry(1, 0, 25, full[1:]...),
		entry(topProducer, topEpoch, api.MaxSeq, done(api.MaxSeq-128, 64, api.MaxNumber), done(api.MaxSeq-64, 64, api.MaxNumber)),
	}
}

func TestLoadOfWhatMayBe(t *testing.T) {
	for _, x := range good() {
		checkEntries(t, mustLoad(t, x), x)
		if x.Producer > 0 {
			checkEntries(t, mustLoad(t, entry(0, 7, 9), x), entry(0, 7, 9), x)
		}
		if x.Producer < topProducer {
			checkEntries(t, mustLoad(t, x, entry(topProducer, 7, 9)), x, entry(topProducer, 7, 9))
		}
	}
}

// bad has entries that may not be; of each only one thing is wrong.
func bad() map[string]producer.Entry {
	var six []producer.Done
	for i := range api.Window + 1 {
		six = append(six, done(i, 1, i))
	}
	return map[string]producer.Entry{
		"Producer -1":                        entry(-1, 0, 0),
		"the least Producer":                 entry(math.MinInt, 0, 0),
		"Producer MaxNumber":                 entry(api.MaxNumber, 0, 0),
		"Producer MaxNumber + 1":             entry(api.MaxNumber+1, 0, 0),
		"the greatest Producer":              entry(math.MaxInt, 0, 0),
		"Epoch -1":                           entry(1, -1, 0),
		"the least Epoch":                    entry(1, math.MinInt, 0),
		"Epoch 2^31":                         entry(1, topEpoch+1, 0),
		"the greatest Epoch":                 entry(1, math.MaxInt, 0),
		"Next -1":                            entry(1, 0, -1),
		"the least Next":                     entry(1, 0, math.MinInt),
		"Next MaxSeq + 1":                    entry(1, 0, api.MaxSeq+1),
		"the greatest Next":                  entry(1, 0, math.MaxInt),
		"Next -1 behind a batch":             entry(1, 0, -1, done(-2, 1, 0)),
		"Next MaxSeq + 1 behind a batch":     entry(1, 0, api.MaxSeq+1, done(api.MaxSeq, 1, 0)),
		"Window + 1 batches":                 entry(1, 0, api.Window+1, six...),
		"many batches":                       entry(1, 0, 1000, make([]producer.Done, 1000)...),
		"Len 0":                              entry(1, 0, 5, done(5, 0, 0)),
		"Len 0 at the beginning":             entry(1, 0, 0, done(0, 0, 0)),
		"Len -1":                             entry(1, 0, 5, done(6, -1, 0)),
		"the least Len":                      entry(1, 0, 0, done(math.MinInt, math.MinInt, 0)),
		"Len MaxBatch + 1":                   entry(1, 0, 70, done(5, api.MaxBatch+1, 0)),
		"the greatest Len":                   entry(1, 0, 5, done(5-math.MaxInt, math.MaxInt, 0)),
		"Len 0 ahead of another one":         entry(1, 0, 5, done(4, 0, 0), done(4, 1, 0)),
		"Len 0 between":                      entry(1, 0, 5, done(3, 1, 0), done(4, 0, 0), done(4, 1, 0)),
		"Len MaxBatch + 1 ahead":             entry(1, 0, 66, done(0, 65, 0), done(65, 1, 0)),
		"Offset -1":                          entry(1, 0, 1, done(0, 1, -1)),
		"the least Offset":                   entry(1, 0, 1, done(0, 1, math.MinInt)),
		"Offset MaxNumber + 1":               entry(1, 0, 1, done(0, 1, api.MaxNumber+1)),
		"the greatest Offset":                entry(1, 0, 1, done(0, 1, math.MaxInt)),
		"Offset -1 ahead":                    entry(1, 0, 2, done(0, 1, -1), done(1, 1, 0)),
		"Offset MaxNumber + 1 ahead":         entry(1, 0, 2, done(0, 1, api.MaxNumber+1), done(1, 1, 0)),
		"Offset -1 between":                  entry(1, 0, 3, done(0, 1, 0), done(1, 1, -1), done(2, 1, 0)),
		"the first Seq -1":                   entry(1, 0, 1, done(-1, 2, 0)),
		"the first Seq -1, and more":         entry(1, 0, 2, done(-1, 2, 0), done(1, 1, 0)),
		"Seqs below 0":                       entry(1, 0, 0, done(-2, 1, 0), done(-1, 1, 0)),
		"Seq -64":                            entry(1, 0, 0, done(-64, 64, 0)),
		"it ends ahead of Next":              entry(1, 0, 3, done(1, 1, 0)),
		"it ends behind Next":                entry(1, 0, 2, done(1, 2, 0)),
		"it ends behind Next, which is 0":    entry(1, 0, 0, done(0, 1, 0)),
		"a gap":                              entry(1, 0, 4, done(0, 1, 0), done(2, 2, 0)),
		"two that meet":                      entry(1, 0, 4, done(0, 3, 0), done(2, 2, 0)),
		"one twice":                          entry(1, 0, 4, done(2, 2, 0), done(2, 2, 0)),
		"the newest one first":               entry(1, 0, 4, done(2, 2, 0), done(0, 2, 0)),
		"a gap between the first two":        entry(1, 0, 9, done(1, 1, 0), done(3, 2, 0), done(5, 4, 0)),
		"only the last one ends wrong":       entry(1, 0, 9, done(1, 2, 0), done(3, 2, 0), done(5, 3, 0)),
		"a Seq that wraps round":             entry(1, 0, 0, done(math.MaxInt, 1, 0), done(math.MinInt, 64, 0)),
		"the greatest Seq":                   entry(1, 0, 0, done(math.MaxInt, 1, 0)),
		"the least Seq":                      entry(1, 0, 0, done(math.MinInt, 1, 0)),
		"the greatest Seq, ahead of a right": entry(1, 0, 1, done(math.MaxInt, 1, 0), done(0, 1, 0)),
	}
}

func checkNoLoad(t *testing.T, name string, l ...producer.Entry) {
	t.Helper()
	if x, e := producer.Load(l); x != nil || e != api.ErrArg {
		t.Errorf("%s: Load(%v): %v, %d", name, l, x, e)
	}
}

func TestLoadOfOneWrongThing(t *testing.T) {
	for name, x := range bad() {
		checkNoLoad(t, name, x)
		checkNoLoad(t, name+", behind another one", entry(0, 0, 0), x)
		checkNoLoad(t, name+", ahead of another one", x, entry(2, 0, 0))
		checkNoLoad(t, name+", in the midst", entry(0, 0, 0), x, entry(topProducer, 0, 0))
	}
}

func TestLoadOfProducersThatDoNotRise(t *testing.T) {
	for name, ids := range map[string][]int{
		"the same":               {1, 1},
		"0 twice":                {0, 0},
		"the last one twice":     {topProducer, topProducer},
		"they fall":              {2, 1},
		"they fall to 0":         {1, 0},
		"the same behind others": {1, 5, 5},
		"one again":              {1, 5, 1},
		"they fall at last":      {1, 5, 7, 6},
		"they fall at first":     {5, 1, 7, 9},
		"-1 ahead":               {-1, 0},
		"-1 behind":              {0, -1},
		"MaxNumber behind":       {0, topProducer, api.MaxNumber},
		"the ends of all":        {math.MaxInt, math.MinInt},
	} {
		var l []producer.Entry
		for _, id := range ids {
			l = append(l, entry(id, 0, 1, done(0, 1, 0)))
		}
		checkNoLoad(t, name, l...)
	}
	for _, ids := range [][]int{{0}, {0, 1}, {0, topProducer}, {topProducer - 1, topProducer}, {3, 7, 8, 1000}} {
		var l []producer.Entry
		for i, id := range ids {
			l = append(l, entry(id, i, i))
		}
		checkEntries(t, mustLoad(t, l...), l...)
	}
}

// TestLoadByTheChaptersWords: each number at, and beside, each of its edges, in any mixture.
func TestLoadByTheChaptersWords(t *testing.T) {
	d := diceOf(12, 4)
	seen := map[api.Errno]int{}
	for range 200000 {
		l := d.entries()
		x, e := producer.Load(l)
		want := api.OK
		if !plainMayLoad(l) {
			want = api.ErrArg
		}
		if e != want || (x != nil) != (e == api.OK) {
			t.Fatalf("Load(%v): %v, %d, not %d", l, x, e, want)
		}
		if e == api.OK && !same(x.Entries(), l) {
			t.Fatalf("Load(%v): Entries: %v", l, x.Entries())
		}
		seen[e]++
	}
	if seen[api.OK] < 10000 || seen[api.ErrArg] < 10000 {
		t.Errorf("too few of one kind: %v", seen)
	}
}

// TestALoadedTableGoesOn: a window that was loaded turns round as one that was noted.
func TestALoadedTableGoesOn(t *testing.T) {
	for n := range api.Window + 1 {
		want := entry(1, 2, 50)
		for i := range n {
			want.Last = append(want.Last, done(50-n+i, 1, i))
		}
		x := mustLoad(t, want)
		for i := range 2*api.Window + 1 {
			mustNote(t, x, of(1, 2, want.Next, i+1), 100+i)
			want.Last = append(want.Last, done(want.Next, i+1, 100+i))
			want.Next += i + 1
			want.Last = want.Last[max(0, len(want.Last)-api.Window):]
			checkEntries(t, x, want)
			for _, b := range want.Last {
				checkDup(t, x, of(1, 2, b.Seq, b.Len), b.Offset)
			}
			checkRefused(t, x, of(1, 2, want.Last[0].Seq-1, 1), api.ErrDup)
		}
	}
}

// What is handed in and answered

// roomy is a copy of list with room behind it, which is filled.
func roomy[T any](list []T, fill T) []T {
	room := make([]T, len(list)+3)
	for i := range room {
		room[i] = fill
	}
	copy(room, list)
	return room[:len(list)]
}

func roomyEntries(l []producer.Entry) []producer.Entry {
	l = roomy(l, entry(77, 77, 77, done(77, 77, 77)))
	for i, x := range l {
		l[i].Last = roomy(x.Last, done(77, 77, 77))
	}
	return l
}

// whole has the room behind the lists, too.
func whole(l []producer.Entry) []producer.Entry {
	l = slices.Clone(l[:cap(l)])
	for i, x := range l {
		l[i].Last = slices.Clone(x.Last[:cap(x.Last)])
	}
	return l
}

// spoil overwrites all of l, with the room behind it.
func spoil(l []producer.Entry) {
	l = l[:cap(l)]
	for i := range l {
		last := l[i].Last[:cap(l[i].Last)]
		for k := range last {
			last[k] = done(-9, -9, -9)
		}
		l[i] = entry(-9, -9, -9)
	}
}

func several() []producer.Entry {
	return []producer.Entry{
		entry(0, 1, 3, done(0, 1, 10), done(1, 2, 20)),
		entry(4, 0, 0),
		entry(5, 2, 9, done(0, 1, 1), done(1, 2, 2), done(3, 3, 3), done(6, 2, 4), done(8, 1, 5)),
		entry(9, 2, 9, done(4, 5, 6)),
	}
}

func TestWhatIsHandedInIsNotChanged(t *testing.T) {
	l := roomyEntries(several())
	was := whole(l)
	x := mustLoad(t, l...)
	if _, e := producer.Load(l); e != api.OK {
		t.Fatal(e)
	}
	for i := range 9 {
		mustNote(t, x, of(5, 2, 9+i, 1), i)
		mustNote(t, x, of(0, 1, 3+i, 1), i)
	}
	if !same(whole(l), was) {
		t.Errorf("Load or Note changed its list: %v", whole(l))
	}
	b := of(7, 0, 0, 2)
	b.Records = roomy([]api.Record{{Key: "a", Value: "b"}, {Key: "c", Dead: true}}, api.Record{Key: "room"})
	records := slices.Clone(b.Records[:cap(b.Records)])
	for range 2 {
		x.Decide(b)
		mustNote(t, x, b, 3)
	}
	if !slices.Equal(b.Records[:cap(b.Records)], records) {
		t.Errorf("Decide or Note changed its batch: %v", b.Records[:cap(b.Records)])
	}
}

func TestWhatIsHandedInIsNotKept(t *testing.T) {
	l := roomyEntries(several())
	x, e := producer.Load(l)
	if e != api.OK {
		t.Fatal(e)
	}
	spoil(l)
	checkEntries(t, x, several()...)
	checkDup(t, x, of(5, 2, 3, 3), 3)
	x = mustNew(t)
	b := of(7, 0, 0, 2)
	b.Records = roomy(b.Records, api.Record{})
	mustNote(t, x, b, 3)
	for i := range b.Records[:cap(b.Records)] {
		b.Records[:cap(b.Records)][i] = api.Record{Key: "other", Value: "other"}
	}
	checkEntries(t, x, entry(7, 0, 2, done(0, 2, 3)))
	checkDup(t, x, of(7, 0, 0, 2), 3)
}

func TestWhatIsAnsweredIsNewMemory(t *testing.T) {
	x := mustLoad(t, several()...)
	for i := range 3 {
		mustNote(t, x, of(5, 2, 9+i, 1), i) // its window has turned
	}
	was := like(x.Entries())
	other := x.Entries()
	spoil(x.Entries())
	if !same(other, was) {
		t.Errorf("two answers share memory: %v", other)
	}
	checkEntries(t, x, was...)
	for _, a := range was {
		for _, d := range a.Last {
			checkDup(t, x, of(a.Producer, a.Epoch, d.Seq, d.Len), d.Offset)
		}
	}
}

func TestListsOfOneAnswerAreApart(t *testing.T) {
	x := mustLoad(t, several()...)
	for i := range several() {
		l, want := x.Entries(), several()
		last := l[i].Last[:cap(l[i].Last)]
		for k := range last {
			last[k] = done(-9, -9, -9)
		}
		l[i].Last, want[i].Last = nil, nil
		if !same(l, want) {
			t.Errorf("the list %d shares memory: %v", i, l)
		}
	}
}

// TestAnAnswerStays: what happens later is not seen in an answer.
func TestAnAnswerStays(t *testing.T) {
	x := mustLoad(t, several()...)
	l := x.Entries()
	for i := range 7 {
		mustNote(t, x, of(5, 2, 9+i, 1), i)
	}
	mustNote(t, x, marker(api.Abort, 0, 9), 9)
	if !same(l, several()) {
		t.Errorf("Entries of a while ago: %v", l)
	}
}
