package store_test

import (
	"bytes"
	"encoding/binary"
	"fmt"
	"hash/crc32"
	"math"
	"slices"
	"testing"

	"gazette/api"
	"gazette/disk"
	"gazette/store"
)

const (
	put  = 1
	seal = 2
	trim = 3

	last = api.MaxNumber - 1 // the greatest loglet
)

var zeros = make([]byte, api.Block)

func mustDisk(t *testing.T, blocks int) *disk.Disk {
	t.Helper()
	d, e := disk.New(blocks)
	if e != api.OK {
		t.Fatalf("disk.New(%d): %d", blocks, e)
	}
	return d
}

func mustOpen(t *testing.T, d *disk.Disk) *store.Store {
	t.Helper()
	s, e := store.Open(d)
	if s == nil || e != api.OK {
		t.Fatalf("Open: %v, %d", s, e)
	}
	return s
}

func mustNew(t *testing.T, blocks int) (*disk.Disk, *store.Store) {
	t.Helper()
	d := mustDisk(t, blocks)
	return d, mustOpen(t, d)
}

func checkNoOpen(t *testing.T, d *disk.Disk, want api.Errno) {
	t.Helper()
	if s, e := store.Open(d); s != nil || e != want {
		t.Errorf("Open: %v, %d, not %d", s, e, want)
	}
}

func checkPut(t *testing.T, s *store.Store, loglet, pos int, data []byte, repair bool, want api.Errno) {
	t.Helper()
	if e := s.Put(loglet, pos, data, repair); e != want {
		t.Errorf("Put(%d, %d, %d bytes, %v): %d, not %d", loglet, pos, len(data), repair, e, want)
	}
}

func checkSeal(t *testing.T, s *store.Store, loglet int, want api.Errno) {
	t.Helper()
	if e := s.Seal(loglet); e != want {
		t.Errorf("Seal(%d): %d, not %d", loglet, e, want)
	}
}

func checkTrim(t *testing.T, s *store.Store, loglet, pos int, want api.Errno) {
	t.Helper()
	if e := s.Trim(loglet, pos); e != want {
		t.Errorf("Trim(%d, %d): %d, not %d", loglet, pos, e, want)
	}
}

func checkGet(t *testing.T, s *store.Store, loglet, pos int, want []byte) {
	t.Helper()
	if b, e := s.Get(loglet, pos); e != api.OK || !bytes.Equal(b, want) {
		t.Errorf("Get(%d, %d): %d bytes, %d, not %d bytes", loglet, pos, len(b), e, len(want))
	}
}

func checkNoGet(t *testing.T, s *store.Store, loglet, pos int, want api.Errno) {
	t.Helper()
	if b, e := s.Get(loglet, pos); e != want || len(b) != 0 {
		t.Errorf("Get(%d, %d): %d bytes, %d, not %d", loglet, pos, len(b), e, want)
	}
}

// checkLoglet asks Tail, Trimmed and Sealed.
func checkLoglet(t *testing.T, s *store.Store, loglet, tail, trimmed int, sealed bool) {
	t.Helper()
	if s.Tail(loglet) != tail || s.Trimmed(loglet) != trimmed || s.Sealed(loglet) != sealed {
		t.Errorf("loglet %d: tail %d, trimmed %d, sealed %v, not %d, %d, %v",
			loglet, s.Tail(loglet), s.Trimmed(loglet), s.Sealed(loglet), tail, trimmed, sealed)
	}
}

func checkLoglets(t *testing.T, s *store.Store, want ...int) {
	t.Helper()
	if got := s.Loglets(); !slices.Equal(got, want) {
		t.Errorf("Loglets: %v, not %v", got, want)
	}
}

func checkFree(t *testing.T, s *store.Store, want int) {
	t.Helper()
	if s.Free() != want {
		t.Errorf("Free: %d, not %d", s.Free(), want)
	}
}

// all tells whatever can be asked of s.
func all(s *store.Store) string {
	told := fmt.Sprint("free ", s.Free(), "\n")
	for _, l := range s.Loglets() {
		told += fmt.Sprint(l, " ", s.Tail(l), s.Trimmed(l), s.Sealed(l), ":")
		for pos := range min(s.Tail(l)+2, api.MaxSlots) {
			b, e := s.Get(l, pos)
			told += fmt.Sprintf(" %d %x", e, b)
		}
		told += "\n"
	}
	return told
}

func checkAll(t *testing.T, s *store.Store, want string) {
	t.Helper()
	if got := all(s); got != want {
		t.Errorf("the store is\n%snot\n%s", got, want)
	}
}

// checkNoOperation: what is done asks nothing of the disk that a fuse of 0 would break off.
func checkNoOperation(t *testing.T, d *disk.Disk, do func()) {
	t.Helper()
	d.Cut(0)
	do()
	if d.Down() || d.Dirty() != 0 {
		t.Error("there was an operation")
	}
	d.Cut(-1)
}

// filled answers so many bytes, other ones for each x, without zeros.
func filled(x, size int) []byte {
	b := make([]byte, size)
	for i := range b {
		b[i] = byte((x*31+i*7)%255 + 1)
	}
	return b
}

// little tells n in size bytes, the lowest first.
func little(n, size int) []byte {
	return binary.LittleEndian.AppendUint64(nil, uint64(n))[:size]
}

// entry tells what a call leaves on the disk, as the document's words say it.
func entry(kind, loglet, pos int, data []byte) []byte {
	return slices.Concat(little(kind, 1), little(loglet, 6), little(pos, 6), data)
}

// part tells a block that has a piece of an entry.
func part(number, k, count int, piece []byte) []byte {
	b := slices.Concat([]byte{165}, little(number, 6), little(k, 2), little(count, 2), little(len(piece), 1), piece)
	return sum(append(b, make([]byte, 252-len(b))...))
}

// sum puts behind 252 bytes what their sum is.
func sum(b []byte) []byte {
	crc := crc32.Checksum(b[:252], crc32.MakeTable(crc32.Castagnoli))
	return binary.LittleEndian.AppendUint32(slices.Clone(b[:252]), crc)
}

// blocks tells the blocks of an entry.
func blocks(number int, text []byte) [][]byte {
	var all [][]byte
	pieces := slices.Collect(slices.Chunk(text, 240))
	for k, piece := range pieces {
		all = append(all, part(number, k, len(pieces), piece))
	}
	return all
}

// lay writes blocks from the place at on, and has them last.
func lay(t *testing.T, d *disk.Disk, at int, blocks ...[]byte) {
	t.Helper()
	for i, b := range blocks {
		if e := d.Write(at+i, b); e != api.OK {
			t.Fatalf("disk.Write(%d): %d", at+i, e)
		}
	}
	if e := d.Sync(); e != api.OK {
		t.Fatalf("disk.Sync: %d", e)
	}
}

// spoil makes a block unreadable.
func spoil(t *testing.T, d *disk.Disk, i int) {
	t.Helper()
	if e := d.Write(i, filled(i, api.Block)); e != api.OK {
		t.Fatalf("disk.Write(%d): %d", i, e)
	}
	d.Crash([]int{-1})
}

// checkBlocks: the disk has these blocks from the place at on, for good, and zeros behind them.
func checkBlocks(t *testing.T, d *disk.Disk, at int, want ...[]byte) {
	t.Helper()
	if d.Dirty() != 0 {
		t.Errorf("%d blocks are dirty", d.Dirty())
	}
	for i := at; i < d.Blocks(); i++ {
		b, e := d.Read(i)
		w := zeros
		if i-at < len(want) {
			w = want[i-at]
		}
		if e != api.OK || !bytes.Equal(b, w) {
			t.Fatalf("block %d: %v, %d, not %v", i, b, e, w)
		}
	}
}

// P401

func TestAStoreThatOpenDidNotMake(t *testing.T) {
	for _, s := range []*store.Store{nil, {}, new(store.Store)} {
		for range 2 {
			for _, n := range []int{math.MinInt, -1, 0, 1, last, api.MaxNumber, math.MaxInt} {
				for _, pos := range []int{math.MinInt, -1, 0, api.MaxSlots, math.MaxInt} {
					checkPut(t, s, n, pos, []byte("a"), false, api.ErrArg)
					checkPut(t, s, n, pos, make([]byte, api.MaxBytes+1), true, api.ErrArg)
					checkTrim(t, s, n, pos, api.ErrArg)
					checkNoGet(t, s, n, pos, api.ErrArg)
				}
				checkSeal(t, s, n, api.ErrArg)
				checkLoglet(t, s, n, 0, 0, false)
			}
			checkLoglets(t, s)
			checkFree(t, s, 0)
		}
	}
}

func TestWhatIsPutIsNotKept(t *testing.T) {
	d, s := mustNew(t, 20)
	for pos, size := range []int{0, 1, 227, 600} {
		room := filled(pos, size+50)
		was := bytes.Clone(room)
		checkPut(t, s, 1, pos, room[:size], false, api.OK)
		checkPut(t, s, 1, pos, room[:size], false, api.OK)
		if !bytes.Equal(room, was) {
			t.Error("Put has changed what was handed in, or the room behind it")
		}
		clear(room)
		checkGet(t, s, 1, pos, was[:size])
		checkGet(t, mustOpen(t, d), 1, pos, was[:size])
	}
}

func TestAnswersAreNewMemory(t *testing.T) {
	d, s := mustNew(t, 20)
	for pos, size := range []int{0, 1, 600} {
		checkPut(t, s, 7, pos, filled(pos, size), false, api.OK)
	}
	checkPut(t, s, 5, 0, nil, false, api.OK)
	for _, s := range []*store.Store{s, mustOpen(t, d)} {
		for pos, size := range []int{0, 1, 600} {
			first, _ := s.Get(7, pos)
			second, _ := s.Get(7, pos)
			clear(first[:cap(first)])
			if !bytes.Equal(second, filled(pos, size)) {
				t.Errorf("an answer has changed with another one: place %d", pos)
			}
			checkGet(t, s, 7, pos, filled(pos, size))
		}
		first := s.Loglets()
		second := s.Loglets()
		clear(first[:cap(first)])
		if !slices.Equal(second, []int{5, 7}) {
			t.Errorf("Loglets, behind a change of another answer: %v", second)
		}
		checkLoglets(t, s, 5, 7)
	}
}

// TestAnAnswerStaysAsItIs: what is done behind a look does not show in what it answered.
func TestAnAnswerStaysAsItIs(t *testing.T) {
	_, s := mustNew(t, 20)
	checkPut(t, s, 7, 0, filled(1, 300), false, api.OK)
	data, _ := s.Get(7, 0)
	there := s.Loglets()
	checkPut(t, s, 3, 0, nil, false, api.OK)
	checkTrim(t, s, 7, 1, api.OK)
	if !bytes.Equal(data, filled(1, 300)) || !slices.Equal(there, []int{7}) {
		t.Error("an answer has changed behind its call")
	}
}

func TestStoresAreApart(t *testing.T) {
	d, s := mustNew(t, 4)
	_, other := mustNew(t, 4)
	checkPut(t, s, 1, 0, []byte("a"), false, api.OK)
	checkSeal(t, s, 1, api.OK)
	d.Cut(0)
	checkSeal(t, s, 2, api.ErrPower)
	checkLoglets(t, other)
	checkFree(t, other, 4)
	checkPut(t, other, 1, 0, []byte("b"), false, api.OK)
	checkGet(t, s, 1, 0, []byte("a"))
}

// P402

func TestOpenRefuses(t *testing.T) {
	checkNoOpen(t, nil, api.ErrArg)
	checkNoOpen(t, new(disk.Disk), api.ErrArg)
	d, s := mustNew(t, 3)
	checkPut(t, s, 1, 0, []byte("a"), false, api.OK)
	d.Cut(0)
	d.Sync()
	checkNoOpen(t, d, api.ErrPower)
	d.Crash(nil)
	checkGet(t, mustOpen(t, d), 1, 0, []byte("a"))
}

func TestOpenOfAnEmptyDisk(t *testing.T) {
	for _, n := range []int{1, 2, api.MaxBlocks} {
		d := mustDisk(t, n)
		checkNoOperation(t, d, func() {
			s := mustOpen(t, d)
			checkFree(t, s, n)
			checkLoglets(t, s)
			checkLoglet(t, s, 0, 0, 0, false)
			checkNoGet(t, s, 0, 0, api.ErrNone)
		})
	}
}

func TestOpenOfADiskWithEntries(t *testing.T) {
	d, s := mustNew(t, 40)
	checkPut(t, s, 1, 0, []byte("a"), false, api.OK)
	checkPut(t, s, 1, 3, filled(1, 1000), false, api.OK)
	checkSeal(t, s, 1, api.OK)
	checkPut(t, s, last, api.MaxSlots-1, nil, false, api.OK)
	checkTrim(t, s, 1, 1, api.OK)
	checkPut(t, s, 1, 1, filled(2, 240), true, api.OK)
	checkTrim(t, s, 6, api.MaxSlots, api.OK)
	checkSeal(t, s, 0, api.OK)
	was := all(s)
	for range 3 {
		checkNoOperation(t, d, func() { s = mustOpen(t, d) })
		checkAll(t, s, was)
		checkLoglets(t, s, 0, 1, 6, last)
		checkLoglet(t, s, 1, 4, 1, true)
		checkLoglet(t, s, 6, api.MaxSlots, api.MaxSlots, false)
		checkFree(t, s, 40-13)
	}
	checkPut(t, s, 2, 0, []byte("b"), false, api.OK)
	checkGet(t, mustOpen(t, d), 2, 0, []byte("b"))
}

// TestOpenReadsWhatIsWritten lays blocks by hand: entries of each kind, of one part and of several.
func TestOpenReadsWhatIsWritten(t *testing.T) {
	d := mustDisk(t, 300)
	at := 0
	for number, text := range [][]byte{
		entry(put, 1, 0, []byte("a")),
		entry(put, last, api.MaxSlots-1, filled(1, api.MaxBytes)),
		entry(seal, 1, 0, nil),
		entry(put, 1, 2, nil),
		entry(put, 1, 1, filled(2, 227)),
		entry(trim, 3, api.MaxSlots, nil),
		entry(trim, 1, 1, nil),
		entry(put, 0, 0, filled(3, 228)),
		entry(trim, 9, 0, nil),
	} {
		b := blocks(number, text)
		lay(t, d, at, b...)
		at += len(b)
	}
	checkNoOperation(t, d, func() {
		s := mustOpen(t, d)
		checkLoglets(t, s, 0, 1, 3, 9, last)
		checkFree(t, s, 300-1-274-1-1-1-1-1-2-1)
		checkLoglet(t, s, 1, 3, 1, true)
		checkLoglet(t, s, 3, api.MaxSlots, api.MaxSlots, false)
		checkLoglet(t, s, 9, 0, 0, false)
		checkNoGet(t, s, 1, 0, api.ErrTrim)
		checkGet(t, s, 1, 1, filled(2, 227))
		checkGet(t, s, 1, 2, nil)
		checkGet(t, s, 0, 0, filled(3, 228))
		checkGet(t, s, last, api.MaxSlots-1, filled(1, api.MaxBytes))
	})
}

// set answers a block with one byte changed, and the sum that it then has.
func set(block []byte, at int, to byte) []byte {
	b := slices.Clone(block)
	b[at] = to
	return sum(b)
}

// wrongs are blocks that stand at the place 1, where the entry 1 should begin, and are not what must come there.
func wrongs() map[string][][]byte {
	right := part(1, 0, 1, entry(put, 1, 1, []byte("b")))
	flipped := slices.Clone(right)
	flipped[255] ^= 128
	other := slices.Clone(right)
	other[25]++
	long := entry(put, 1, 1, filled(1, 400))
	two := blocks(1, long)
	one := func(text []byte) [][]byte { return [][]byte{part(1, 0, 1, text)} }
	return map[string][][]byte{
		"another mark":                   {set(right, 0, 164)},
		"the number of the entry ahead":  {set(right, 1, 0)},
		"the number of the entry behind": {set(right, 1, 2)},
		"a huge number":                  {set(right, 6, 1)},
		"a later part":                   {set(right, 7, 1)},
		"a much later part":              {set(right, 8, 1)},
		"no parts":                       {set(right, 9, 0)},
		"more parts than there are":      {set(right, 9, 2)},
		"many more parts":                {set(right, 10, 255)},
		"fewer bytes":                    {set(right, 11, 13)},
		"too many bytes":                 {set(right, 11, 241)},
		"far too many bytes":             {set(right, 11, 255)},
		"not zeros behind the bytes":     {set(right, 26, 1)},
		"not a zero ahead of the sum":    {set(right, 251, 1)},
		"another sum":                    {flipped},
		"another byte":                   {other},
		"no bytes":                       {part(1, 0, 1, nil)},
		"too few bytes for an entry":     {part(1, 0, 1, entry(put, 1, 1, nil)[:12])},
		"kind 0":                         one(entry(0, 1, 1, nil)),
		"kind 4":                         one(entry(4, 1, 1, nil)),
		"kind 255":                       one(entry(255, 1, 1, []byte("b"))),
		"a place that no slot has":       one(entry(put, 1, api.MaxSlots, []byte("b"))),
		"a huge place":                   one(entry(put, 1, last, []byte("b"))),
		"a seal with a place":            one(entry(seal, 1, 1, nil)),
		"a seal with data":               one(entry(seal, 1, 0, []byte("b"))),
		"a trim too far":                 one(entry(trim, 1, api.MaxSlots+1, nil)),
		"a trim with data":               one(entry(trim, 1, 1, []byte("b"))),
		"too much data":                  blocks(1, entry(put, 1, 1, make([]byte, api.MaxBytes+1))),
		"a first part alone":             {two[0]},
		"a second part alone":            {two[1]},
		"parts turned round":             {two[1], two[0]},
		"a part twice":                   {two[0], two[0], two[1]},
		"a hole between parts":           {two[0], zeros, two[1]},
		"a second part of another one":   {two[0], set(two[1], 1, 2)},
		"a second part with more parts":  {two[0], set(two[1], 9, 3)},
		"a second part with fewer":       {two[0], set(two[1], 9, 1)},
		"a first part with more parts":   {set(two[0], 9, 3), two[1]},
		"a second part that is spoiled":  {two[0], append(slices.Clone(two[1][:255]), two[1][255]^1)},
		"a first part that is short":     {part(1, 0, 2, long[:239]), part(1, 1, 2, long[239:])},
		"parts that would fit in one":    {part(1, 0, 2, entry(put, 1, 1, nil)), part(1, 1, 2, filled(1, 20))},
		"a last part without bytes":      {part(1, 0, 2, entry(put, 1, 1, filled(1, 227))), part(1, 1, 2, nil)},
	}
}

func TestWhereTheEndIs(t *testing.T) {
	for name, wrong := range wrongs() {
		d := mustDisk(t, 300)
		lay(t, d, 0, part(0, 0, 1, entry(put, 1, 0, []byte("a"))))
		lay(t, d, 1, wrong...)
		lay(t, d, 1+len(wrong), part(1, 0, 1, entry(seal, 1, 0, nil)), part(2, 0, 1, entry(seal, 1, 0, nil)))
		s := mustOpen(t, d)
		checkLoglets(t, s, 1)
		checkLoglet(t, s, 1, 1, 0, false)
		checkGet(t, s, 1, 0, []byte("a"))
		checkFree(t, s, 299)
		checkBlocks(t, d, 1)
		checkPut(t, s, 1, 1, filled(7, 500), false, api.OK)
		checkGet(t, mustOpen(t, d), 1, 1, filled(7, 500))
		if t.Failed() {
			t.Fatal(name)
		}
	}
}

func TestAnUnreadableBlockIsTheEnd(t *testing.T) {
	for i := range 8 {
		d, s := mustNew(t, 10)
		checkPut(t, s, 1, 0, []byte("a"), false, api.OK)
		checkPut(t, s, 1, 1, filled(1, 600), false, api.OK)
		checkPut(t, s, 1, 2, []byte("c"), false, api.OK)
		spoil(t, d, i)
		s = mustOpen(t, d)
		tail := []int{0, 1, 1, 1, 2, 3, 3, 3}[i]
		end := []int{0, 1, 1, 1, 4, 5, 5, 5}[i]
		if s.Tail(1) != tail {
			t.Errorf("block %d: tail %d, not %d", i, s.Tail(1), tail)
		}
		checkFree(t, s, 10-end)
		checkBlocks(t, d, end)
	}
}

// TestOpenClears counts operations: one for each block behind the end that has to be written, by rising numbers, and a Sync.
func TestOpenClears(t *testing.T) {
	for fuse := range 6 {
		d := mustDisk(t, 9)
		lay(t, d, 0, part(0, 0, 1, entry(put, 1, 0, []byte("a"))), zeros, filled(1, 256), zeros, part(1, 0, 1, entry(seal, 1, 0, nil)))
		lay(t, d, 8, append(make([]byte, 255), 1))
		spoil(t, d, 6)
		d.Cut(fuse)
		if fuse == 5 {
			s := mustOpen(t, d)
			checkBlocks(t, d, 1)
			checkFree(t, s, 8)
			checkSeal(t, s, 1, api.ErrPower)
			continue
		}
		checkNoOpen(t, d, api.ErrPower)
		if !d.Down() || d.Dirty() != fuse {
			t.Errorf("fuse %d: down %v, %d dirty", fuse, d.Down(), d.Dirty())
		}
		d.Crash([]int{1, 1, 1, 1})
		for k, i := range []int{2, 4, 6, 8} {
			b, e := d.Read(i)
			if cleared := e == api.OK && bytes.Equal(b, zeros); cleared != (k < fuse) {
				t.Errorf("fuse %d: block %d: %d, %v", fuse, i, e, b)
			}
		}
		checkGet(t, mustOpen(t, d), 1, 0, []byte("a"))
		checkBlocks(t, d, 1)
	}
}

func TestOpenOfAFullDisk(t *testing.T) {
	d, s := mustNew(t, 3)
	checkPut(t, s, 1, 0, filled(1, 600), false, api.OK)
	checkNoOperation(t, d, func() { s = mustOpen(t, d) })
	checkFree(t, s, 0)
	checkGet(t, s, 1, 0, filled(1, 600))
	// The entry says of three parts that they are four: there is no block for the last one.
	for i := range 3 {
		b, _ := d.Read(i)
		lay(t, d, i, set(b, 9, 4))
	}
	s = mustOpen(t, d)
	checkFree(t, s, 3)
	checkLoglets(t, s)
	checkBlocks(t, d, 0)
}

// TestEntriesThatNoPutWrote stand on a disk that was made by hand: a slot keeps its data, a trim point never falls.
func TestEntriesThatNoPutWrote(t *testing.T) {
	d := mustDisk(t, 9)
	for number, text := range [][]byte{
		entry(put, 1, 4, []byte("a")),
		entry(put, 1, 4, []byte("b")),
		entry(trim, 1, 3, nil),
		entry(put, 1, 2, []byte("c")),
		entry(trim, 1, 1, nil),
		entry(seal, 1, 0, nil),
		entry(seal, 1, 0, nil),
	} {
		lay(t, d, number, blocks(number, text)...)
	}
	s := mustOpen(t, d)
	checkFree(t, s, 2)
	checkLoglet(t, s, 1, 5, 3, true)
	checkGet(t, s, 1, 4, []byte("a"))
	checkNoGet(t, s, 1, 2, api.ErrTrim)
	checkNoGet(t, s, 1, 3, api.ErrNone)
}

// P403

func TestPutArguments(t *testing.T) {
	d, s := mustNew(t, 9)
	checkNoOperation(t, d, func() {
		long := make([]byte, api.MaxBytes+1)
		for _, repair := range []bool{false, true} {
			for _, n := range []int{math.MinInt, -1, api.MaxNumber, math.MaxInt} {
				checkPut(t, s, n, 0, nil, repair, api.ErrArg)
				checkPut(t, s, n, -1, long, repair, api.ErrArg)
				checkSeal(t, s, n, api.ErrArg)
				checkTrim(t, s, n, 1, api.ErrArg)
				checkNoGet(t, s, n, 0, api.ErrArg)
				checkLoglet(t, s, n, 0, 0, false)
			}
			for _, pos := range []int{math.MinInt, -1, api.MaxSlots, math.MaxInt} {
				checkPut(t, s, 1, pos, nil, repair, api.ErrArg)
				checkPut(t, s, 1, pos, long, repair, api.ErrArg)
				checkNoGet(t, s, 1, pos, api.ErrArg)
			}
			checkPut(t, s, 1, 0, long, repair, api.ErrSize)
			checkPut(t, s, 1, 0, make([]byte, 1<<20), repair, api.ErrSize)
		}
		checkLoglets(t, s)
		checkFree(t, s, 9)
	})
}

func TestPutAtTheEdges(t *testing.T) {
	d, s := mustNew(t, 9)
	for _, n := range []int{0, last} {
		for _, pos := range []int{0, api.MaxSlots - 1} {
			checkPut(t, s, n, pos, filled(n+pos, 9), false, api.OK)
		}
	}
	for _, s := range []*store.Store{s, mustOpen(t, d)} {
		for _, n := range []int{0, last} {
			checkLoglet(t, s, n, api.MaxSlots, 0, false)
			for _, pos := range []int{0, api.MaxSlots - 1} {
				checkGet(t, s, n, pos, filled(n+pos, 9))
			}
			checkNoGet(t, s, n, 1, api.ErrNone)
		}
		checkLoglets(t, s, 0, last)
	}
}

// TestSizes has data that just fills its parts, and a byte more; on a disk with just enough blocks, and with one too few.
func TestSizes(t *testing.T) {
	for _, c := range []struct{ size, parts int }{
		{0, 1}, {1, 1}, {226, 1}, {227, 1}, {228, 2}, {467, 2}, {468, 3}, {707, 3}, {708, 4},
		{240*255 - 13, 255}, {240*255 - 12, 256}, {240*256 - 12, 257}, {api.MaxBytes - 1, 274}, {api.MaxBytes, 274},
	} {
		data := filled(c.size, c.size)
		d, s := mustNew(t, c.parts)
		checkPut(t, s, 3, 5, data, false, api.OK)
		checkFree(t, s, 0)
		checkGet(t, s, 3, 5, data)
		checkBlocks(t, d, 0, blocks(0, entry(put, 3, 5, data))...)
		checkGet(t, mustOpen(t, d), 3, 5, data)

		d, s = mustNew(t, c.parts)
		checkSeal(t, s, 8, api.OK)
		checkNoOperation(t, d, func() { checkPut(t, s, 3, 5, data, false, api.ErrFull) })
		checkFree(t, s, c.parts-1)
		checkLoglets(t, s, 8)
	}
}

// TestBytes: what stands on a disk behind calls of each kind, to the byte.
func TestBytes(t *testing.T) {
	d, s := mustNew(t, 20)
	checkPut(t, s, 1, 0, []byte("a"), false, api.OK)
	b, _ := d.Read(0)
	want := []byte{165, 0, 0, 0, 0, 0, 0, 0, 0, 1, 0, 14, 1, 1, 0, 0, 0, 0, 0, 0, 0, 0, 0, 0, 0, 97}
	if !bytes.Equal(b[:26], want) || !bytes.Equal(b[26:252], zeros[26:252]) {
		t.Errorf("the first block: %v", b)
	}
	checkSeal(t, s, 1, api.OK)
	checkTrim(t, s, 1<<40+7, 300, api.OK)
	checkPut(t, s, last, 4095, filled(4, 500), false, api.OK)
	checkSeal(t, s, 1<<24, api.OK)
	checkTrim(t, s, 1, 1, api.OK)
	checkPut(t, s, 1, 258, filled(5, 227), true, api.OK)
	checkBlocks(t, d, 0, slices.Concat(
		blocks(0, entry(put, 1, 0, []byte("a"))),
		blocks(1, entry(seal, 1, 0, nil)),
		blocks(2, entry(trim, 1<<40+7, 300, nil)),
		blocks(3, entry(put, last, 4095, filled(4, 500))),
		blocks(4, entry(seal, 1<<24, 0, nil)),
		blocks(5, entry(trim, 1, 1, nil)),
		blocks(6, entry(put, 1, 258, filled(5, 227))),
	)...)
}

// TestManyEntries passes 255, so that their numbers take more than one byte.
func TestManyEntries(t *testing.T) {
	d, s := mustNew(t, 700)
	for i := range 600 {
		checkPut(t, s, i%7, i, little(i, 2), false, api.OK)
	}
	for i := range 600 {
		b, _ := d.Read(i)
		if !bytes.Equal(b, part(i, 0, 1, entry(put, i%7, i, little(i, 2)))) {
			t.Fatalf("block %d: %v", i, b)
		}
	}
	checkAll(t, mustOpen(t, d), all(s))
	checkFree(t, s, 100)
}

// TestPutWritesByRisingNumbers breaks off a Put of four parts behind each of its operations.
func TestPutWritesByRisingNumbers(t *testing.T) {
	text := entry(put, 1, 0, filled(1, 800))
	for fuse := range 6 {
		d, s := mustNew(t, 9)
		checkSeal(t, s, 2, api.OK)
		d.Cut(fuse)
		if fuse == 5 {
			checkPut(t, s, 1, 0, text[13:], false, api.OK)
			checkSeal(t, s, 3, api.ErrPower)
			continue
		}
		checkPut(t, s, 1, 0, text[13:], false, api.ErrPower)
		if !d.Down() || d.Dirty() != fuse {
			t.Errorf("fuse %d: down %v, %d dirty", fuse, d.Down(), d.Dirty())
		}
		checkNoGet(t, s, 1, 0, api.ErrNone)
		checkFree(t, s, 8)
		checkLoglets(t, s, 2)
		d.Crash([]int{1, 1, 1, 1})
		checkBlocks(t, d, 1, blocks(1, text)[:fuse]...)
	}
}

func TestPutAgain(t *testing.T) {
	d, s := mustNew(t, 9)
	checkPut(t, s, 1, 0, []byte("a"), false, api.OK)
	checkPut(t, s, 1, 1, nil, false, api.OK)
	for _, reopened := range []bool{false, true} {
		for _, sealed := range []bool{false, true} {
			if sealed {
				checkSeal(t, s, 1, api.OK)
			}
			if reopened {
				s = mustOpen(t, d)
			}
			checkNoOperation(t, d, func() {
				for _, repair := range []bool{false, true} {
					checkPut(t, s, 1, 0, []byte("a"), repair, api.OK)
					checkPut(t, s, 1, 1, nil, repair, api.OK)
					checkPut(t, s, 1, 1, []byte{}, repair, api.OK)
					for _, data := range []string{"b", "", "aa", "a\x00"} {
						checkPut(t, s, 1, 0, []byte(data), repair, api.ErrTwice)
					}
					checkPut(t, s, 1, 1, []byte{0}, repair, api.ErrTwice)
				}
				checkGet(t, s, 1, 0, []byte("a"))
				checkGet(t, s, 1, 1, nil)
			})
		}
	}
	checkFree(t, s, 6)
}

// TestTheSameDataElsewhere: another place, and another loglet, is another slot.
func TestTheSameDataElsewhere(t *testing.T) {
	_, s := mustNew(t, 9)
	for _, at := range [][2]int{{1, 0}, {1, 1}, {0, 1}, {0, 0}} {
		checkPut(t, s, at[0], at[1], []byte("a"), false, api.OK)
	}
	checkFree(t, s, 5)
}

func TestPutIntoASealedLoglet(t *testing.T) {
	d, s := mustNew(t, 9)
	checkPut(t, s, 1, 5, []byte("a"), false, api.OK)
	checkSeal(t, s, 1, api.OK)
	checkNoOperation(t, d, func() {
		for _, pos := range []int{0, 4, 6, api.MaxSlots - 1} {
			checkPut(t, s, 1, pos, []byte("a"), false, api.ErrSeal)
			checkNoGet(t, s, 1, pos, api.ErrNone)
		}
	})
	checkPut(t, s, 1, 6, []byte("b"), true, api.OK)
	checkPut(t, s, 1, 2, []byte("c"), true, api.OK)
	checkPut(t, s, 1, 3, []byte("d"), false, api.ErrSeal)
	checkPut(t, s, 2, 3, []byte("d"), false, api.OK)
	for _, s := range []*store.Store{s, mustOpen(t, d)} {
		checkLoglet(t, s, 1, 7, 0, true)
		checkGet(t, s, 1, 6, []byte("b"))
		checkGet(t, s, 1, 2, []byte("c"))
		checkNoGet(t, s, 1, 3, api.ErrNone)
	}
	checkFree(t, s, 4)
}

// TestRepairIsNoSeal: where nothing is sealed it makes no difference.
func TestRepairIsNoSeal(t *testing.T) {
	_, s := mustNew(t, 9)
	checkPut(t, s, 1, 0, []byte("a"), true, api.OK)
	checkLoglet(t, s, 1, 1, 0, false)
	checkPut(t, s, 1, 1, []byte("b"), false, api.OK)
}

func TestPutBelowTheTrimPoint(t *testing.T) {
	d, s := mustNew(t, 9)
	checkPut(t, s, 1, 2, []byte("a"), false, api.OK)
	checkTrim(t, s, 1, 4, api.OK)
	checkSeal(t, s, 1, api.OK)
	checkNoOperation(t, d, func() {
		for _, repair := range []bool{false, true} {
			for pos := range 4 {
				checkPut(t, s, 1, pos, []byte("a"), repair, api.ErrTrim)
				checkPut(t, s, 1, pos, []byte("b"), repair, api.ErrTrim)
			}
		}
		checkPut(t, s, 1, 4, []byte("c"), false, api.ErrSeal)
	})
	checkPut(t, s, 1, 4, []byte("c"), true, api.OK)
	checkPut(t, s, 2, 3, []byte("c"), false, api.OK)
	checkTrim(t, s, 2, api.MaxSlots, api.OK)
	checkPut(t, s, 2, api.MaxSlots-1, nil, true, api.ErrTrim)
}

// P404

func TestSealTwice(t *testing.T) {
	d, s := mustNew(t, 9)
	for _, n := range []int{0, 1, last} {
		checkSeal(t, s, n, api.OK)
		checkLoglet(t, s, n, 0, 0, true)
	}
	checkFree(t, s, 6)
	for _, s := range []*store.Store{s, mustOpen(t, d)} {
		checkNoOperation(t, d, func() {
			for _, n := range []int{0, 1, last} {
				checkSeal(t, s, n, api.OK)
				checkLoglet(t, s, n, 0, 0, true)
			}
			checkLoglets(t, s, 0, 1, last)
			checkLoglet(t, s, 2, 0, 0, false)
			checkFree(t, s, 6)
		})
	}
}

func TestTrimArguments(t *testing.T) {
	d, s := mustNew(t, 9)
	checkNoOperation(t, d, func() {
		for _, pos := range []int{math.MinInt, -1, api.MaxSlots + 1, math.MaxInt} {
			checkTrim(t, s, 1, pos, api.ErrArg)
		}
		checkLoglets(t, s)
	})
	for k, pos := range []int{1, api.MaxSlots - 1, api.MaxSlots} {
		checkTrim(t, s, 1, pos, api.OK)
		checkLoglet(t, s, 1, pos, pos, false)
		checkFree(t, s, 8-k)
	}
}

// TestTrimOfNothing: to the place 0 it does not even make the loglet be there.
func TestTrimOfNothing(t *testing.T) {
	d, s := mustNew(t, 9)
	checkNoOperation(t, d, func() {
		for _, n := range []int{0, 1, last} {
			checkTrim(t, s, n, 0, api.OK)
		}
		checkLoglets(t, s)
		checkFree(t, s, 9)
	})
	checkLoglets(t, mustOpen(t, d))
	checkTrim(t, s, 4, 2, api.OK)
	checkLoglets(t, s, 4)
	checkLoglets(t, mustOpen(t, d), 4)
}

func TestTrim(t *testing.T) {
	d, s := mustNew(t, 20)
	for pos := range 6 {
		checkPut(t, s, 1, pos, filled(pos, 3), false, api.OK)
		checkPut(t, s, 2, pos, filled(pos, 3), false, api.OK)
	}
	checkTrim(t, s, 1, 3, api.OK)
	checkNoOperation(t, d, func() {
		for _, pos := range []int{0, 2, 3} {
			checkTrim(t, s, 1, pos, api.OK)
		}
	})
	checkTrim(t, s, 1, 4, api.OK)
	checkFree(t, s, 6)
	for _, s := range []*store.Store{s, mustOpen(t, d)} {
		checkLoglet(t, s, 1, 6, 4, false)
		checkLoglet(t, s, 2, 6, 0, false)
		for pos := range 6 {
			checkGet(t, s, 2, pos, filled(pos, 3))
			if pos < 4 {
				checkNoGet(t, s, 1, pos, api.ErrTrim)
			} else {
				checkGet(t, s, 1, pos, filled(pos, 3))
			}
		}
		checkNoGet(t, s, 1, 6, api.ErrNone)
	}
}

// TestTrimDoesNotSeal, and a sealed loglet is trimmed.
func TestTrimDoesNotSeal(t *testing.T) {
	_, s := mustNew(t, 9)
	checkTrim(t, s, 1, 2, api.OK)
	checkPut(t, s, 1, 2, []byte("a"), false, api.OK)
	checkSeal(t, s, 1, api.OK)
	checkTrim(t, s, 1, 3, api.OK)
	checkLoglet(t, s, 1, 3, 3, true)
	checkNoGet(t, s, 1, 2, api.ErrTrim)
}

// P405

func TestTail(t *testing.T) {
	d, s := mustNew(t, 20)
	checkLoglet(t, s, 1, 0, 0, false)
	steps := []struct {
		pos  int
		trim bool
		tail int
	}{
		{5, false, 6}, {2, false, 6}, {6, false, 7}, {3, true, 7}, {7, true, 7}, {10, true, 10}, {10, false, 11},
		{20, false, 21}, {15, true, 21}, {4095, false, 4096}, {4096, true, 4096},
	}
	for _, c := range steps {
		if c.trim {
			checkTrim(t, s, 1, c.pos, api.OK)
		} else {
			checkPut(t, s, 1, c.pos, nil, false, api.OK)
		}
		for _, s := range []*store.Store{s, mustOpen(t, d)} {
			if s.Tail(1) != c.tail {
				t.Errorf("behind %v: tail %d", c, s.Tail(1))
			}
		}
	}
}

func TestLoglets(t *testing.T) {
	d, s := mustNew(t, 60)
	var want []int
	for i := range 40 {
		n := (i*17 + 5) % 40 * 1000003
		want = append(want, n)
		switch i % 3 {
		case 0:
			checkPut(t, s, n, 0, nil, false, api.OK)
		case 1:
			checkSeal(t, s, n, api.OK)
		case 2:
			checkTrim(t, s, n, 1, api.OK)
		}
	}
	slices.Sort(want)
	for range 5 {
		checkLoglets(t, s, want...)
		checkLoglets(t, mustOpen(t, d), want...)
	}
}

// TestLooksMakeNothing: asking about a loglet does not make it be there.
func TestLooksMakeNothing(t *testing.T) {
	d, s := mustNew(t, 9)
	checkNoOperation(t, d, func() {
		for _, n := range []int{0, 1, last} {
			checkLoglet(t, s, n, 0, 0, false)
			checkNoGet(t, s, n, 0, api.ErrNone)
			checkNoGet(t, s, n, api.MaxSlots-1, api.ErrNone)
		}
	})
	checkLoglets(t, s)
	checkFree(t, s, 9)
}

func TestExamples(t *testing.T) {
	_, s := mustNew(t, 8)
	checkPut(t, s, 1, 0, []byte("a"), false, api.OK)
	checkPut(t, s, 1, 0, []byte("b"), false, api.ErrTwice)
	checkSeal(t, s, 1, api.OK)
	checkPut(t, s, 1, 1, []byte("c"), false, api.ErrSeal)
	checkPut(t, s, 1, 1, []byte("c"), true, api.OK)
	checkFree(t, s, 5)
	checkLoglet(t, s, 1, 2, 0, true)
}
