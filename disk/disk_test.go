package disk_test

import (
	"bytes"
	"math"
	"math/rand/v2"
	"slices"
	"testing"

	"gazette/api"
	"gazette/disk"
)

// text answers a block's bytes, other ones for each x from 0 to 254, and never zeros.
func text(x int) []byte {
	b := make([]byte, api.Block)
	for i := range b {
		b[i] = byte((x + 1) * (i + 1))
	}
	return b
}

var zeros = make([]byte, api.Block)

func mustNew(t *testing.T, blocks int) *disk.Disk {
	t.Helper()
	d, e := disk.New(blocks)
	if d == nil || e != api.OK {
		t.Fatalf("New(%d): %v, %d", blocks, d, e)
	}
	return d
}

func checkWrite(t *testing.T, d *disk.Disk, i int, b []byte, want api.Errno) {
	t.Helper()
	if e := d.Write(i, b); e != want {
		t.Errorf("Write(%d, %d bytes): %d, not %d", i, len(b), e, want)
	}
}

func checkSync(t *testing.T, d *disk.Disk, want api.Errno) {
	t.Helper()
	if e := d.Sync(); e != want {
		t.Errorf("Sync: %d, not %d", e, want)
	}
}

func checkRead(t *testing.T, d *disk.Disk, i int, want []byte) {
	t.Helper()
	if b, e := d.Read(i); e != api.OK || !bytes.Equal(b, want) {
		t.Errorf("Read(%d): %v, %d, not %v", i, b, e, want)
	}
}

func checkNoRead(t *testing.T, d *disk.Disk, i int, want api.Errno) {
	t.Helper()
	if b, e := d.Read(i); e != want || len(b) != 0 {
		t.Errorf("Read(%d): %d bytes, %d, not %d", i, len(b), e, want)
	}
}

func checkState(t *testing.T, d *disk.Disk, dirty int, down bool) {
	t.Helper()
	if d.Dirty() != dirty || d.Down() != down {
		t.Errorf("dirty %d, down %v, not %d, %v", d.Dirty(), d.Down(), dirty, down)
	}
}

// P301

func TestADiskThatNewDidNotMake(t *testing.T) {
	for _, d := range []*disk.Disk{nil, {}, new(disk.Disk)} {
		for range 2 {
			for _, i := range []int{math.MinInt, -1, 0, 1, math.MaxInt} {
				checkNoRead(t, d, i, api.ErrArg)
				checkWrite(t, d, i, text(1), api.ErrArg)
				checkWrite(t, d, i, nil, api.ErrArg)
			}
			checkSync(t, d, api.ErrArg)
			checkState(t, d, 0, false)
			if d.Blocks() != 0 {
				t.Errorf("Blocks: %d", d.Blocks())
			}
			for _, n := range []int{-1, 1, 0} {
				d.Cut(n)
			}
			d.Crash(nil)
			d.Crash([]int{1, -1})
			d.Cut(0)
		}
	}
}

func TestWhatIsWrittenIsNotKept(t *testing.T) {
	d := mustNew(t, 1)
	room := slices.Concat(text(1), text(2))
	was := bytes.Clone(room)
	b := room[:api.Block]
	checkWrite(t, d, 0, b, api.OK)
	clear(room)
	checkRead(t, d, 0, text(1))
	checkSync(t, d, api.OK)
	checkRead(t, d, 0, text(1))
	copy(room, was)
	checkWrite(t, d, 0, b, api.OK)
	checkWrite(t, d, 0, text(3), api.OK)
	if !bytes.Equal(room, was) {
		t.Error("Write has changed what was handed in, or the room behind it")
	}
	clear(room)
	d.Crash([]int{1})
	checkRead(t, d, 0, text(1))
}

// TestWhatIsReadIsNewMemory looks at a version, at a durable text and at one that was never written.
func TestWhatIsReadIsNewMemory(t *testing.T) {
	d := mustNew(t, 3)
	checkWrite(t, d, 1, text(1), api.OK)
	checkSync(t, d, api.OK)
	checkWrite(t, d, 2, text(2), api.OK)
	for i, want := range [][]byte{zeros, text(1), text(2)} {
		first, _ := d.Read(i)
		second, _ := d.Read(i)
		first = first[:cap(first)]
		for j := range first {
			first[j] = 170
		}
		if !bytes.Equal(second, want) {
			t.Errorf("an answer has changed with another one: block %d", i)
		}
		checkRead(t, d, i, want)
	}
	d.Crash([]int{1})
	checkRead(t, d, 2, text(2))
}

// TestAnAnswerStaysAsItIs: what is done behind a Read does not show in what it answered.
func TestAnAnswerStaysAsItIs(t *testing.T) {
	d := mustNew(t, 1)
	checkWrite(t, d, 0, text(1), api.OK)
	version, _ := d.Read(0)
	checkSync(t, d, api.OK)
	kept, _ := d.Read(0)
	checkWrite(t, d, 0, text(2), api.OK)
	checkSync(t, d, api.OK)
	if !bytes.Equal(version, text(1)) || !bytes.Equal(kept, text(1)) {
		t.Error("an answer has changed behind its call")
	}
}

func TestChoicesAreLeftAlone(t *testing.T) {
	d := mustNew(t, 3)
	for i := range 3 {
		checkWrite(t, d, i, text(i), api.OK)
	}
	room := []int{1, 0, -4, 7, 9}
	was := slices.Clone(room)
	d.Crash(room[:3])
	if !slices.Equal(room, was) {
		t.Errorf("choices are now %v", room)
	}
}

func TestDisksAreApart(t *testing.T) {
	a, b := mustNew(t, 2), mustNew(t, 2)
	checkWrite(t, a, 0, text(1), api.OK)
	a.Cut(0)
	checkSync(t, a, api.ErrPower)
	checkState(t, b, 0, false)
	checkRead(t, b, 0, zeros)
	checkWrite(t, b, 1, text(2), api.OK)
	b.Crash([]int{1})
	checkState(t, a, 1, true)
}

// P302, P307

func TestNew(t *testing.T) {
	for _, blocks := range []int{1, 2, api.MaxBlocks - 1, api.MaxBlocks} {
		d := mustNew(t, blocks)
		if d.Blocks() != blocks {
			t.Errorf("Blocks: %d, not %d", d.Blocks(), blocks)
		}
		checkState(t, d, 0, false)
		for i := range blocks {
			checkRead(t, d, i, zeros)
		}
		for range 3 {
			checkSync(t, d, api.OK)
			checkWrite(t, d, blocks-1, text(1), api.OK)
		}
	}
}

func TestNewRefuses(t *testing.T) {
	for _, blocks := range []int{math.MinInt, -1, 0, api.MaxBlocks + 1, math.MaxInt} {
		if d, e := disk.New(blocks); d != nil || e != api.ErrArg {
			t.Errorf("New(%d): %v, %d", blocks, d, e)
		}
	}
}

// P303

func TestPlaces(t *testing.T) {
	for _, blocks := range []int{1, 3, api.MaxBlocks} {
		d := mustNew(t, blocks)
		for _, i := range []int{math.MinInt, -blocks, -1, blocks, blocks + 1, math.MaxInt} {
			checkWrite(t, d, i, text(1), api.ErrArg)
			checkNoRead(t, d, i, api.ErrArg)
		}
		checkState(t, d, 0, false)
		checkWrite(t, d, 0, text(1), api.OK)
		checkWrite(t, d, blocks-1, text(2), api.OK)
		checkRead(t, d, blocks-1, text(2))
		checkState(t, d, min(blocks, 2), false)
	}
}

func TestLengths(t *testing.T) {
	d := mustNew(t, 1)
	long := slices.Concat(text(1), text(2))
	for _, b := range [][]byte{nil, {}, long[:1], long[:255], long[:257], long, make([]byte, 1<<20)} {
		checkWrite(t, d, 0, b, api.ErrArg)
		checkState(t, d, 0, false)
		checkRead(t, d, 0, zeros)
	}
	checkWrite(t, d, 0, long[:256], api.OK)
	checkRead(t, d, 0, text(1))
}

func TestWhatIsRefusedIsNoOperation(t *testing.T) {
	d := mustNew(t, 2)
	for _, fuse := range []int{0, 1} {
		d.Cut(fuse)
		checkWrite(t, d, -1, text(1), api.ErrArg)
		checkWrite(t, d, 2, text(1), api.ErrArg)
		checkWrite(t, d, 0, text(1)[1:], api.ErrArg)
		checkWrite(t, d, 0, nil, api.ErrArg)
		checkState(t, d, 0, false)
	}
	checkWrite(t, d, 0, text(1), api.OK)
	checkWrite(t, d, 0, text(2), api.ErrPower)
	checkWrite(t, d, -1, text(1), api.ErrArg)
	checkWrite(t, d, 2, text(1), api.ErrArg)
	checkWrite(t, d, 0, text(1)[1:], api.ErrArg)
	checkNoRead(t, d, -1, api.ErrArg)
	checkNoRead(t, d, 2, api.ErrArg)
}

// TestFuse has Writes and Syncs by turns: both are operations, and the last one is broken off.
func TestFuse(t *testing.T) {
	for _, fuse := range []int{0, 1, 2, 3, 10} {
		for first := range 2 {
			d := mustNew(t, 4)
			d.Cut(fuse)
			step := func(n int, want api.Errno) {
				t.Helper()
				if (n+first)%2 == 0 {
					checkSync(t, d, want)
				} else {
					checkWrite(t, d, n%4, text(n), want)
				}
			}
			for n := range fuse {
				step(n, api.OK)
				checkState(t, d, (n+first)%2, false)
			}
			dirty := d.Dirty()
			for n := range 3 {
				step(fuse+n, api.ErrPower)
				checkState(t, d, dirty, true)
				checkNoRead(t, d, 0, api.ErrPower)
			}
			d.Crash(nil)
			for n := range 12 {
				step(n, api.OK)
			}
		}
	}
}

func TestALongFuse(t *testing.T) {
	d := mustNew(t, 1)
	d.Cut(math.MaxInt)
	for range 100 {
		checkSync(t, d, api.OK)
	}
	checkState(t, d, 0, false)
}

func TestCutBelowZeroTakesTheFuseAway(t *testing.T) {
	for _, none := range []int{-1, -2, math.MinInt} {
		for _, fuse := range []int{-1, 0, 1, 5} {
			d := mustNew(t, 1)
			d.Cut(fuse)
			d.Cut(none)
			for n := range 8 {
				checkWrite(t, d, 0, text(n), api.OK)
				checkSync(t, d, api.OK)
			}
			checkState(t, d, 0, false)
		}
	}
}

func TestCutLaysTheFuseAnew(t *testing.T) {
	d := mustNew(t, 1)
	d.Cut(0)
	d.Cut(2)
	checkSync(t, d, api.OK)
	d.Cut(1)
	checkSync(t, d, api.OK)
	checkSync(t, d, api.ErrPower)
	checkState(t, d, 0, true)
}

func TestCutWithoutPower(t *testing.T) {
	for _, n := range []int{-1, 0, 1, 5} {
		d := mustNew(t, 1)
		d.Cut(0)
		checkWrite(t, d, 0, text(1), api.ErrPower)
		d.Cut(n)
		checkState(t, d, 0, true)
		checkWrite(t, d, 0, text(1), api.ErrPower)
		checkSync(t, d, api.ErrPower)
		checkNoRead(t, d, 0, api.ErrPower)
		d.Crash(nil)
		for range 8 {
			checkSync(t, d, api.OK)
		}
		checkRead(t, d, 0, zeros)
	}
}

// TestWhatIsBrokenOffIsNotDone: a Write leaves no version, a Sync leaves all blocks dirty.
func TestWhatIsBrokenOffIsNotDone(t *testing.T) {
	d := mustNew(t, 2)
	checkWrite(t, d, 0, text(1), api.OK)
	d.Cut(0)
	checkWrite(t, d, 0, text(2), api.ErrPower)
	d.Crash([]int{2})
	checkNoRead(t, d, 0, api.ErrForm)

	checkWrite(t, d, 0, text(3), api.OK)
	checkWrite(t, d, 1, text(4), api.OK)
	d.Cut(0)
	checkSync(t, d, api.ErrPower)
	checkState(t, d, 2, true)
	d.Crash([]int{1})
	checkRead(t, d, 0, text(3))
	checkRead(t, d, 1, zeros)
}

func TestSyncTakesTheLastVersions(t *testing.T) {
	d := mustNew(t, 3)
	for n := range 5 {
		checkWrite(t, d, 2, text(n), api.OK)
		checkWrite(t, d, 0, text(n+10), api.OK)
	}
	checkState(t, d, 2, false)
	checkSync(t, d, api.OK)
	checkState(t, d, 0, false)
	checkSync(t, d, api.OK)
	d.Crash([]int{1, 1, 1})
	for i, want := range [][]byte{text(14), zeros, text(4)} {
		checkRead(t, d, i, want)
	}
}

// P304

func TestLooksAreNoOperations(t *testing.T) {
	d := mustNew(t, 2)
	checkWrite(t, d, 0, text(1), api.OK)
	for _, fuse := range []int{0, 1} {
		d.Cut(fuse)
		for range 5 {
			checkRead(t, d, 0, text(1))
			checkRead(t, d, 1, zeros)
			checkNoRead(t, d, 2, api.ErrArg)
			checkState(t, d, 1, false)
			d.Blocks()
		}
	}
	checkSync(t, d, api.OK)
	checkSync(t, d, api.ErrPower)
	if d.Blocks() != 2 {
		t.Errorf("Blocks without power: %d", d.Blocks())
	}
}

func TestThePresentTextIsTheLastVersion(t *testing.T) {
	d := mustNew(t, 2)
	for n := range 4 {
		checkWrite(t, d, 1, text(n), api.OK)
		checkRead(t, d, 1, text(n))
		checkRead(t, d, 0, zeros)
		checkState(t, d, 1, false)
	}
	checkWrite(t, d, 1, zeros, api.OK)
	checkRead(t, d, 1, zeros)
	checkState(t, d, 1, false)
}

// TestTheSameTextAgain: a block is dirty with it, and it is a version more.
func TestTheSameTextAgain(t *testing.T) {
	d := mustNew(t, 1)
	checkWrite(t, d, 0, zeros, api.OK)
	checkState(t, d, 1, false)
	checkWrite(t, d, 0, zeros, api.OK)
	checkWrite(t, d, 0, text(1), api.OK)
	d.Crash([]int{3})
	checkRead(t, d, 0, text(1))
	checkWrite(t, d, 0, text(1), api.OK)
	checkState(t, d, 1, false)
	d.Crash([]int{2})
	checkNoRead(t, d, 0, api.ErrForm)
}

// P305

func TestCrashTakesAVersion(t *testing.T) {
	for _, down := range []bool{false, true} {
		for c := -2; c <= 6; c++ {
			d := mustNew(t, 1)
			checkWrite(t, d, 0, text(9), api.OK)
			checkSync(t, d, api.OK)
			for n := 1; n <= 4; n++ {
				checkWrite(t, d, 0, text(n), api.OK)
			}
			if down {
				d.Cut(0)
				checkSync(t, d, api.ErrPower)
			}
			d.Crash([]int{c})
			checkState(t, d, 0, false)
			switch {
			case c == 0:
				checkRead(t, d, 0, text(9))
			case c >= 1 && c <= 4:
				checkRead(t, d, 0, text(c))
			default:
				checkNoRead(t, d, 0, api.ErrForm)
			}
		}
	}
}

func TestHugeChoices(t *testing.T) {
	for _, c := range []int{math.MinInt, -1, 2, 1 << 32, 1<<32 + 1, math.MaxInt} {
		d := mustNew(t, 1)
		checkWrite(t, d, 0, text(1), api.OK)
		d.Crash([]int{c})
		checkNoRead(t, d, 0, api.ErrForm)
	}
}

// TestChoicesAreOfTheDirtyBlocks writes by falling numbers, and leaves blocks out: choices go by rising ones, and pass over what is not dirty.
func TestChoicesAreOfTheDirtyBlocks(t *testing.T) {
	for range 20 {
		d := mustNew(t, 40)
		var choices []int
		for i := 39; i >= 0; i -= 3 {
			for v := range 4 {
				checkWrite(t, d, i, text(i+50*v), api.OK)
			}
		}
		for k := range 14 {
			choices = append(choices, k%6)
		}
		checkState(t, d, 14, false)
		d.Crash(choices)
		for i := range 40 {
			switch c := i / 3 % 6; {
			case i%3 != 0 || c == 0:
				checkRead(t, d, i, zeros)
			case c == 5:
				checkNoRead(t, d, i, api.ErrForm)
			default:
				checkRead(t, d, i, text(i+50*(c-1)))
			}
		}
	}
}

func TestFewerAndMoreChoices(t *testing.T) {
	for _, choices := range [][]int{nil, {}, {1}, {1, 1}, {1, 1, 1}, {1, 1, 1, 1, 7, -1}} {
		d := mustNew(t, 5)
		for _, i := range []int{4, 1, 2} {
			checkWrite(t, d, i, text(i), api.OK)
		}
		d.Crash(choices)
		checkState(t, d, 0, false)
		for i := range 5 {
			k := []int{9, 0, 1, 9, 2}[i]
			if k < len(choices) && k < 3 {
				checkRead(t, d, i, text(i))
			} else {
				checkRead(t, d, i, zeros)
			}
		}
	}
}

// TestChoicesBehindTheListDoNotCount: the room behind choices is nobody's.
func TestChoicesBehindTheListDoNotCount(t *testing.T) {
	d := mustNew(t, 2)
	checkWrite(t, d, 0, text(1), api.OK)
	checkWrite(t, d, 1, text(2), api.OK)
	d.Crash([]int{1, 1, 1}[:1])
	checkRead(t, d, 0, text(1))
	checkRead(t, d, 1, zeros)
}

func TestCrashWithPowerTakesTheFuseAway(t *testing.T) {
	for _, fuse := range []int{0, 1, 3} {
		d := mustNew(t, 1)
		d.Cut(fuse)
		d.Crash(nil)
		for range 6 {
			checkSync(t, d, api.OK)
		}
		checkState(t, d, 0, false)
	}
}

// unreadable answers a disk of two blocks, of which the block 0 is unreadable.
func unreadable(t *testing.T) *disk.Disk {
	d := mustNew(t, 2)
	checkWrite(t, d, 0, text(1), api.OK)
	d.Crash([]int{9})
	checkNoRead(t, d, 0, api.ErrForm)
	checkRead(t, d, 1, zeros)
	return d
}

func TestWhatIsUnreadableStaysSo(t *testing.T) {
	d := unreadable(t)
	checkSync(t, d, api.OK)
	checkNoRead(t, d, 0, api.ErrForm)
	d.Crash([]int{1})
	checkNoRead(t, d, 0, api.ErrForm)
	d.Cut(0)
	checkSync(t, d, api.ErrPower)
	checkNoRead(t, d, 0, api.ErrPower)
}

func TestWhatIsUnreadableIsWritten(t *testing.T) {
	for _, synced := range []bool{false, true} {
		for c := -1; c <= 3; c++ {
			d := unreadable(t)
			checkWrite(t, d, 0, text(2), api.OK)
			checkWrite(t, d, 0, text(3), api.OK)
			checkRead(t, d, 0, text(3))
			checkState(t, d, 1, false)
			if synced {
				checkSync(t, d, api.OK)
				checkRead(t, d, 0, text(3))
			}
			d.Crash([]int{c})
			switch {
			case synced:
				checkRead(t, d, 0, text(3))
			case c == 1 || c == 2:
				checkRead(t, d, 0, text(c+1))
			default:
				checkNoRead(t, d, 0, api.ErrForm)
			}
		}
	}
}

// P306

func TestWhatWasSyncedLasts(t *testing.T) {
	for _, choices := range [][]int{nil, {0}, {1}, {2}, {-1}, {9, 9, 9, 9}, {1, 1, 1, 1}} {
		d := mustNew(t, 4)
		for i := range 4 {
			checkWrite(t, d, i, text(i+9), api.OK)
			checkWrite(t, d, i, text(i), api.OK)
		}
		checkSync(t, d, api.OK)
		for range 3 {
			checkWrite(t, d, 2, text(20), api.OK)
			d.Cut(1)
			checkWrite(t, d, 2, text(21), api.OK)
			checkWrite(t, d, 1, text(22), api.ErrPower)
			d.Crash(choices)
			for _, i := range []int{0, 1, 3} {
				checkRead(t, d, i, text(i))
			}
		}
	}
}

// P308

func TestASecondCrashChangesNothing(t *testing.T) {
	for _, second := range [][]int{nil, {0, 0, 0}, {1, 1, 1}, {9, 9, 9}, {-1}} {
		d := mustNew(t, 4)
		for i := range 3 {
			checkWrite(t, d, i, text(i), api.OK)
		}
		d.Cut(0)
		checkSync(t, d, api.ErrPower)
		d.Crash([]int{0, 1, 9})
		for range 2 {
			checkState(t, d, 0, false)
			checkRead(t, d, 0, zeros)
			checkRead(t, d, 1, text(1))
			checkNoRead(t, d, 2, api.ErrForm)
			checkRead(t, d, 3, zeros)
			d.Crash(second)
		}
	}
}

// P303 to P305, all together

// plain is a disk as the document's words say it, without thought of how it is kept.
type plain struct {
	durable  []string // "": unreadable
	versions [][]string
	down     bool
	fuse     int
	fused    bool
}

func newPlain(blocks int) *plain {
	p := &plain{versions: make([][]string, blocks)}
	for range blocks {
		p.durable = append(p.durable, string(zeros))
	}
	return p
}

func (p *plain) read(i int) (string, api.Errno) {
	if i < 0 || i >= len(p.durable) {
		return "", api.ErrArg
	}
	if p.down {
		return "", api.ErrPower
	}
	present := append([]string{p.durable[i]}, p.versions[i]...)
	if s := present[len(present)-1]; s != "" {
		return s, api.OK
	}
	return "", api.ErrForm
}

func (p *plain) begin() bool {
	if !p.down && p.fused && p.fuse == 0 {
		p.down, p.fused = true, false
	}
	p.fuse--
	return !p.down
}

func (p *plain) write(i int, b []byte) api.Errno {
	if i < 0 || i >= len(p.durable) || len(b) != 256 {
		return api.ErrArg
	}
	if !p.begin() {
		return api.ErrPower
	}
	p.versions[i] = append(p.versions[i], string(b))
	return api.OK
}

func (p *plain) sync() api.Errno {
	if !p.begin() {
		return api.ErrPower
	}
	for i, v := range p.versions {
		p.durable[i] = append([]string{p.durable[i]}, v...)[len(v)]
		p.versions[i] = nil
	}
	return api.OK
}

func (p *plain) cut(n int) {
	if !p.down {
		p.fuse, p.fused = n, n >= 0
	}
}

func (p *plain) crash(choices []int) {
	choices = slices.Concat(choices, make([]int, len(p.durable)))
	for i, v := range p.versions {
		if len(v) == 0 {
			continue
		}
		told := append([]string{p.durable[i]}, v...)
		p.durable[i], p.versions[i] = "", nil
		if c := choices[0]; c >= 0 && c < len(told) {
			p.durable[i] = told[c]
		}
		choices = choices[1:]
	}
	p.down, p.fused = false, false
}

func (p *plain) dirty() int {
	n := 0
	for _, v := range p.versions {
		n += min(len(v), 1)
	}
	return n
}

func checkAlike(t *testing.T, d *disk.Disk, p *plain) {
	t.Helper()
	checkState(t, d, p.dirty(), p.down)
	for i := -1; i <= len(p.durable); i++ {
		b, e := d.Read(i)
		if s, want := p.read(i); e != want || string(b) != s {
			t.Errorf("Read(%d): %v, %d, not %v, %d", i, b, e, []byte(s), want)
		}
	}
}

func TestAnyCallsInAnyOrder(t *testing.T) {
	r := rand.New(rand.NewPCG(5, 6))
	for range 300 {
		blocks := 1 + r.IntN(6)
		d, p := mustNew(t, blocks), newPlain(blocks)
		for n := range 80 {
			switch r.IntN(12) {
			case 0:
				if e, want := d.Sync(), p.sync(); e != want {
					t.Errorf("Sync: %d, not %d", e, want)
				}
			case 1:
				fuse := r.IntN(9) - 2
				d.Cut(fuse)
				p.cut(fuse)
			case 2:
				choices := make([]int, r.IntN(blocks+2))
				for k := range choices {
					choices[k] = r.IntN(7) - 1
				}
				d.Crash(choices)
				p.crash(choices)
			default:
				i, b := r.IntN(blocks+2)-1, text(n)
				if r.IntN(9) == 0 {
					b = append(b, 0)[r.IntN(3):]
				}
				checkWrite(t, d, i, b, p.write(i, b))
			}
			checkAlike(t, d, p)
		}
		if t.Failed() {
			return
		}
	}
}
