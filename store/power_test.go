package store_test

import (
	"bytes"
	"math/rand/v2"
	"slices"
	"testing"

	"gazette/api"
	"gazette/disk"
	"gazette/store"
)

// call is a Put, a Seal or a Trim.
type call struct {
	kind, loglet, pos int
	data              []byte
	repair            bool
}

func (c call) on(s *store.Store) api.Errno {
	switch c.kind {
	case put:
		return s.Put(c.loglet, c.pos, c.data, c.repair)
	case seal:
		return s.Seal(c.loglet)
	}
	return s.Trim(c.loglet, c.pos)
}

// parts tells how many blocks the call writes, if it writes.
func (c call) parts() int { return (13 + len(c.data) + 239) / 240 }

// calls are such that each of them writes, and that what they say hangs on their order.
func calls() []call {
	return []call{
		{kind: put, loglet: 1, data: []byte("a")},
		{kind: put, loglet: 1, pos: 1, data: filled(1, 600)},
		{kind: seal, loglet: 1},
		{kind: put, loglet: 1, pos: 2, data: filled(2, 300), repair: true},
		{kind: trim, loglet: 1, pos: 2},
		{kind: put, loglet: 0, pos: 7},
		{kind: trim, loglet: 4, pos: 3},
		{kind: seal, loglet: 0},
	}
}

// states tells what a store is behind the first n calls, for each n.
func states(t *testing.T, calls []call) []string {
	_, s := mustNew(t, 20)
	told := []string{all(s)}
	for _, c := range calls {
		if e := c.on(s); e != api.OK {
			t.Fatalf("%v: %d", c, e)
		}
		told = append(told, all(s))
	}
	return told
}

// everyChoice tells all lists of n choices: nothing of a block stays, its version does, or it is unreadable.
func everyChoice(n int) [][]int {
	lists := [][]int{nil}
	for range n {
		var longer [][]int
		for _, l := range lists {
			for _, c := range []int{0, 1, 9} {
				longer = append(longer, append(slices.Clone(l), c))
			}
		}
		lists = longer
	}
	return lists
}

// breakOff does calls till the fuse breaks one off, and tells how many were done.
func breakOff(t *testing.T, s *store.Store, calls []call) int {
	t.Helper()
	for n, c := range calls {
		if e := c.on(s); e == api.ErrPower {
			return n
		} else if e != api.OK {
			t.Fatalf("%v: %d", c, e)
		}
	}
	return len(calls)
}

// P406

// TestWhatWasToldLasts breaks off behind each number of operations, and leaves of the dirty blocks whatever a crash can leave.
func TestWhatWasToldLasts(t *testing.T) {
	list := calls()
	told := states(t, list)
	operations := 0
	for _, c := range list {
		operations += c.parts() + 1
	}
	for fuse := range operations {
		for _, choices := range everyChoice(3) {
			d, s := mustNew(t, 20)
			d.Cut(fuse)
			n := breakOff(t, s, list)
			if n == len(list) {
				t.Fatalf("fuse %d has broken nothing off", fuse)
			}
			checkAll(t, s, told[n])
			whole := d.Dirty() == list[n].parts() && !slices.ContainsFunc(choices[:d.Dirty()], func(c int) bool { return c != 1 })
			d.Crash(choices)
			s = mustOpen(t, d)
			if whole {
				n++
			}
			checkAll(t, s, told[n])
			if breakOff(t, s, list[n:]) != len(list)-n {
				t.Errorf("fuse %d, choices %v: a call behind the crash is refused", fuse, choices)
			}
			checkAll(t, s, told[len(list)])
			checkAll(t, mustOpen(t, d), told[len(list)])
		}
	}
}

// TestWhatWasToldLastsThroughASecondCrash: Open, too, is broken off, in the midst of what it clears.
func TestWhatWasToldLastsThroughASecondCrash(t *testing.T) {
	list := calls()[:2]
	told := states(t, list)
	for _, first := range everyChoice(3) {
		left := 0
		for _, c := range first {
			left += min(c, 1)
		}
		if left == 0 || slices.Equal(first, []int{1, 1, 1}) {
			continue // nothing has to be cleared
		}
		for fuse := range 5 {
			for _, second := range everyChoice(3) {
				d, s := mustNew(t, 20)
				d.Cut(2 + 3)
				if breakOff(t, s, list) != 1 {
					t.Fatal("it is broken off elsewhere")
				}
				d.Crash(first)
				d.Cut(fuse)
				if s, e := store.Open(d); (e == api.OK) != (fuse > left) || (s != nil) != (e == api.OK) {
					t.Errorf("Open of %d blocks to clear, with the fuse %d: %d", left, fuse, e)
				}
				d.Crash(second)
				checkAll(t, mustOpen(t, d), told[1])
				checkBlocks(t, d, 1)
			}
		}
	}
}

// TestACrashOutOfTheBlue: with power, between calls, there is nothing to forget, and the store goes on.
func TestACrashOutOfTheBlue(t *testing.T) {
	d, s := mustNew(t, 20)
	for _, c := range calls() {
		if e := c.on(s); e != api.OK {
			t.Errorf("%v: %d", c, e)
		}
		was := all(s)
		d.Crash([]int{9, 9, 9})
		checkAll(t, s, was)
		checkAll(t, mustOpen(t, d), was)
	}
}

// P403, P404: a store that has fallen

func TestAFallenStore(t *testing.T) {
	for fuse := range 3 {
		d, s := mustNew(t, 20)
		checkPut(t, s, 1, 0, []byte("a"), false, api.OK)
		checkPut(t, s, 1, 4, []byte("b"), false, api.OK)
		checkTrim(t, s, 1, 2, api.OK)
		checkSeal(t, s, 1, api.OK)
		was := all(s)
		d.Cut(fuse)
		checkPut(t, s, 3, 0, filled(1, 300), false, api.ErrPower)
		for _, crashed := range []bool{false, true} {
			if crashed {
				d.Crash([]int{1, 1})
			}
			// Even what would write nothing, and what would be refused otherwise.
			checkPut(t, s, 1, 4, []byte("b"), false, api.ErrPower)
			checkPut(t, s, 1, 4, []byte("c"), false, api.ErrPower)
			checkPut(t, s, 1, 0, []byte("a"), false, api.ErrPower)
			checkPut(t, s, 1, 5, []byte("a"), false, api.ErrPower)
			checkPut(t, s, 1, 5, make([]byte, api.MaxBytes), true, api.ErrPower)
			checkSeal(t, s, 1, api.ErrPower)
			checkSeal(t, s, 2, api.ErrPower)
			checkTrim(t, s, 1, 1, api.ErrPower)
			checkTrim(t, s, 1, 3, api.ErrPower)
			checkTrim(t, s, 2, 0, api.ErrPower)
			checkPut(t, s, 1, -1, nil, false, api.ErrArg)
			checkPut(t, s, 1, 5, make([]byte, api.MaxBytes+1), true, api.ErrSize)
			checkSeal(t, s, -1, api.ErrArg)
			checkTrim(t, s, 1, api.MaxSlots+1, api.ErrArg)
			checkNoGet(t, s, -1, 0, api.ErrArg)
			checkAll(t, s, was)
			if d.Down() == crashed || crashed && d.Dirty() != 0 {
				t.Error("a fallen store has asked its disk")
			}
		}
		checkPut(t, mustOpen(t, d), 1, 4, []byte("b"), false, api.OK)
		checkSeal(t, s, 2, api.ErrPower)
	}
}

// TestEachCallFalls: a Seal or a Trim that is broken off makes the store fall, at its Write and at its Sync.
func TestEachCallFalls(t *testing.T) {
	for _, c := range []call{{kind: seal, loglet: 1}, {kind: trim, loglet: 1, pos: 3}, {kind: put, loglet: 1}} {
		for fuse := range 2 {
			d, s := mustNew(t, 20)
			d.Cut(fuse)
			if e := c.on(s); e != api.ErrPower {
				t.Errorf("%v: %d", c, e)
			}
			checkLoglets(t, s)
			checkLoglet(t, s, 1, 0, 0, false)
			checkFree(t, s, 20)
			d.Crash(nil)
			if e := c.on(s); e != api.ErrPower {
				t.Errorf("%v, when it has fallen: %d", c, e)
			}
			if e := c.on(mustOpen(t, d)); e != api.OK {
				t.Errorf("%v, opened anew: %d", c, e)
			}
		}
	}
}

// TestPowerThatSomebodyElseTook: while it is gone nothing is done, but the store has not fallen.
func TestPowerThatSomebodyElseTook(t *testing.T) {
	d, s := mustNew(t, 20)
	checkPut(t, s, 1, 0, []byte("a"), false, api.OK)
	d.Cut(0)
	if e := d.Sync(); e != api.ErrPower {
		t.Fatal(e)
	}
	checkPut(t, s, 1, 0, []byte("a"), false, api.ErrPower)
	checkPut(t, s, 1, 1, []byte("b"), false, api.ErrPower)
	checkSeal(t, s, 1, api.ErrPower)
	checkTrim(t, s, 1, 0, api.ErrPower)
	checkTrim(t, s, 1, 1, api.ErrPower)
	checkGet(t, s, 1, 0, []byte("a"))
	checkFree(t, s, 19)
	d.Crash(nil)
	checkPut(t, s, 1, 0, []byte("a"), false, api.OK)
	checkPut(t, s, 1, 1, []byte("b"), false, api.OK)
	checkTrim(t, s, 1, 1, api.OK)
	checkSeal(t, s, 1, api.OK)
	checkAll(t, mustOpen(t, d), all(s))
}

// P407

// TestASlotStaysAsItIs tries other data by each way, through crashes, till the slot is given up.
func TestASlotStaysAsItIs(t *testing.T) {
	d, s := mustNew(t, 30)
	checkPut(t, s, 1, 3, filled(1, 300), false, api.OK)
	for n := range 6 {
		for _, repair := range []bool{false, true} {
			checkPut(t, s, 1, 3, filled(2, 300), repair, api.ErrTwice)
			checkPut(t, s, 1, 3, nil, repair, api.ErrTwice)
		}
		checkGet(t, s, 1, 3, filled(1, 300))
		switch n {
		case 1:
			checkSeal(t, s, 1, api.OK)
		case 2:
			checkTrim(t, s, 1, 3, api.OK)
		case 3:
			d.Cut(1)
			checkPut(t, s, 2, 3, filled(3, 300), true, api.ErrPower)
			d.Crash([]int{9})
			s = mustOpen(t, d)
		case 4:
			s = mustOpen(t, d)
		}
	}
	checkTrim(t, s, 1, 4, api.OK)
	checkNoGet(t, s, 1, 3, api.ErrTrim)
	checkPut(t, s, 1, 3, filled(2, 300), true, api.ErrTrim)
}

// P408

func TestASealStays(t *testing.T) {
	d, s := mustNew(t, 30)
	checkPut(t, s, 1, 0, []byte("a"), false, api.OK)
	checkSeal(t, s, 1, api.OK)
	for n := range 5 {
		checkPut(t, s, 1, n+1, []byte("b"), false, api.ErrSeal)
		checkNoGet(t, s, 1, n+1, api.ErrNone)
		checkPut(t, s, 1, n+1, []byte("b"), true, api.OK)
		checkTrim(t, s, 1, n, api.OK)
		if n%2 == 0 {
			d.Cut(0)
			checkSeal(t, s, 9, api.ErrPower)
			d.Crash(nil)
			s = mustOpen(t, d)
		}
		if !s.Sealed(1) {
			t.Error("it is not sealed any more")
		}
	}
}

// P409

func TestFull(t *testing.T) {
	d, s := mustNew(t, 6)
	checkPut(t, s, 1, 0, []byte("a"), false, api.OK)
	checkPut(t, s, 1, 1, []byte("b"), false, api.OK)
	checkTrim(t, s, 1, 1, api.OK)
	checkSeal(t, s, 1, api.OK)
	was := all(s)
	for _, reopened := range []bool{false, true} {
		if reopened {
			s = mustOpen(t, d)
		}
		checkNoOperation(t, d, func() {
			checkPut(t, s, 2, 0, filled(1, 468), false, api.ErrFull)
			checkPut(t, s, 1, 5, make([]byte, api.MaxBytes), true, api.ErrFull)
			checkAll(t, s, was)
		})
	}
	checkPut(t, s, 2, 0, filled(1, 467), false, api.OK)
	checkFree(t, s, 0)
	was = all(s)
	for _, reopened := range []bool{false, true} {
		if reopened {
			s = mustOpen(t, d)
		}
		checkNoOperation(t, d, func() {
			checkPut(t, s, 2, 1, nil, false, api.ErrFull)
			checkPut(t, s, 3, 0, nil, true, api.ErrFull)
			checkSeal(t, s, 2, api.ErrFull)
			checkSeal(t, s, 3, api.ErrFull)
			checkTrim(t, s, 1, 2, api.ErrFull)
			checkTrim(t, s, 3, 1, api.ErrFull)
			checkAll(t, s, was)
			// What is refused for another reason, or writes nothing, is answered as ever.
			checkPut(t, s, 1, 1, []byte("b"), false, api.OK)
			checkPut(t, s, 1, 1, []byte("c"), true, api.ErrTwice)
			checkPut(t, s, 1, 0, []byte("a"), true, api.ErrTrim)
			checkPut(t, s, 1, 2, []byte("a"), false, api.ErrSeal)
			checkSeal(t, s, 1, api.OK)
			checkTrim(t, s, 1, 1, api.OK)
			checkTrim(t, s, 3, 0, api.OK)
			checkAll(t, s, was)
		})
	}
}

// P403 to P409, all together

// plain is a store as the document's words say it: the calls that were done are all it has.
type plain struct {
	blocks int
	done   []call
	broken *call  // the one that was broken off
	wrote  int    // how many of its blocks were written
	left   []bool // of each block behind the end: it is not zeros, or can't be read
	fuse   int    // below 0: none
	down   bool
	fallen bool
}

func (p *plain) free() int {
	n := p.blocks
	for _, c := range p.done {
		n -= c.parts()
	}
	return n
}

func (p *plain) trimmed(loglet int) int {
	n := 0
	for _, c := range p.done {
		if c.kind == trim && c.loglet == loglet {
			n = max(n, c.pos)
		}
	}
	return n
}

func (p *plain) sealed(loglet int) bool {
	return slices.ContainsFunc(p.done, func(c call) bool { return c.kind == seal && c.loglet == loglet })
}

// slot tells which of the calls made it, or -1.
func (p *plain) slot(loglet, pos int) int {
	return slices.IndexFunc(p.done, func(c call) bool { return c.kind == put && c.loglet == loglet && c.pos == pos })
}

func (p *plain) tail(loglet int) int {
	n := p.trimmed(loglet)
	for _, c := range p.done {
		if c.kind == put && c.loglet == loglet {
			n = max(n, c.pos+1)
		}
	}
	return n
}

func (p *plain) loglets() []int {
	var all []int
	for _, c := range p.done {
		all = append(all, c.loglet)
	}
	slices.Sort(all)
	return slices.Compact(all)
}

func (p *plain) get(loglet, pos int) ([]byte, api.Errno) {
	if pos < p.trimmed(loglet) {
		return nil, api.ErrTrim
	}
	if i := p.slot(loglet, pos); i >= 0 {
		return p.done[i].data, api.OK
	}
	return nil, api.ErrNone
}

// operations tells how many of n are done till the fuse breaks one off.
func (p *plain) operations(n int) int {
	if p.fuse < 0 {
		return n
	}
	if p.fuse < n {
		n, p.fuse, p.down = p.fuse, -1, true
		return n
	}
	p.fuse -= n
	return n
}

// idle tells whether the call is answered without a write, and how.
func (p *plain) idle(c call) (api.Errno, bool) {
	most := api.MaxSlots
	if c.kind == put {
		most--
	}
	switch i := p.slot(c.loglet, c.pos); {
	case c.loglet < 0 || c.loglet >= api.MaxNumber || c.kind != seal && (c.pos < 0 || c.pos > most):
		return api.ErrArg, true
	case c.kind == put && len(c.data) > api.MaxBytes:
		return api.ErrSize, true
	case p.fallen || p.down:
		return api.ErrPower, true
	case c.kind == put && c.pos < p.trimmed(c.loglet):
		return api.ErrTrim, true
	case c.kind == put && i >= 0 && bytes.Equal(p.done[i].data, c.data):
		return api.OK, true
	case c.kind == put && i >= 0:
		return api.ErrTwice, true
	case c.kind == put && p.sealed(c.loglet) && !c.repair:
		return api.ErrSeal, true
	case c.kind == seal && p.sealed(c.loglet), c.kind == trim && c.pos <= p.trimmed(c.loglet):
		return api.OK, true
	case c.parts() > p.free():
		return api.ErrFull, true
	}
	return api.OK, false
}

func (p *plain) call(c call) api.Errno {
	if e, idle := p.idle(c); idle {
		return e
	}
	if n := p.operations(c.parts() + 1); p.down {
		p.broken, p.wrote, p.fallen = &c, n, true
		return api.ErrPower
	}
	p.done = append(p.done, c)
	return api.OK
}

// crash answers with choices for the blocks that are dirty.
func (p *plain) crash(choose func() int) []int {
	var choices []int
	whole := true
	p.left = nil
	for range p.wrote {
		c := choose()
		choices = append(choices, c)
		p.left = append(p.left, c != 0)
		whole = whole && c == 1
	}
	if p.broken != nil && p.wrote == p.broken.parts() && whole {
		p.done = append(p.done, *p.broken)
		p.left = nil
	}
	p.broken, p.wrote, p.down, p.fuse = nil, 0, false, -1
	return choices
}

// open clears what is left.
func (p *plain) open() api.Errno {
	if p.down {
		return api.ErrPower
	}
	clear := 0
	for _, l := range p.left {
		if l {
			clear++
		}
	}
	if clear > 0 {
		p.operations(clear + 1)
	}
	if p.down {
		return api.ErrPower
	}
	p.left, p.fallen = nil, false
	return api.OK
}

func checkAlike(t *testing.T, s *store.Store, p *plain) {
	t.Helper()
	checkFree(t, s, p.free())
	checkLoglets(t, s, p.loglets()...)
	for loglet := range 4 {
		checkLoglet(t, s, loglet, p.tail(loglet), p.trimmed(loglet), p.sealed(loglet))
		for pos := range 8 {
			if b, e := p.get(loglet, pos); e == api.OK {
				checkGet(t, s, loglet, pos, b)
			} else {
				checkNoGet(t, s, loglet, pos, e)
			}
		}
	}
}

// anyCall is one of few loglets and places, so that calls meet.
func anyCall(r *rand.Rand) call {
	c := call{kind: []int{put, put, put, put, put, seal, trim, trim}[r.IntN(8)], loglet: r.IntN(3), pos: r.IntN(6), repair: r.IntN(2) == 0}
	if r.IntN(30) == 0 {
		c.loglet = []int{-1, api.MaxNumber}[r.IntN(2)]
	}
	if r.IntN(30) == 0 {
		c.pos = []int{-1, api.MaxSlots + 1}[r.IntN(2)]
	}
	if c.kind == put {
		c.data = filled(r.IntN(2), []int{0, 1, 227, 228, 500, 900}[r.IntN(6)])
	}
	return c
}

func TestAnyCallsInAnyOrder(t *testing.T) {
	r := rand.New(rand.NewPCG(7, 8))
	for range 300 {
		size := 1 + r.IntN(40)
		d, s := mustNew(t, size)
		p := &plain{blocks: size, fuse: -1}
		for range 60 {
			switch r.IntN(9) {
			case 0:
				fuse := r.IntN(12)
				d.Cut(fuse)
				if !p.down {
					p.fuse = fuse
				}
			case 1:
				s = crashAndOpen(t, r, d, p)
			case 2:
				if !p.fallen {
					s = openAgain(t, s, d, p)
				}
			default:
				c := anyCall(r)
				if e, want := c.on(s), p.call(c); e != want {
					t.Errorf("%v: %d, not %d", c, e, want)
				}
			}
			checkAlike(t, s, p)
			if t.Failed() {
				return
			}
		}
	}
}

// crashAndOpen breaks off some of the Opens, too.
func crashAndOpen(t *testing.T, r *rand.Rand, d *disk.Disk, p *plain) *store.Store {
	t.Helper()
	d.Crash(p.crash(func() int { return []int{0, 1, 1, 1, 2, -1}[r.IntN(6)] }))
	if p.left != nil && r.IntN(2) == 0 {
		fuse := r.IntN(4)
		d.Cut(fuse)
		p.fuse = fuse
		left := slices.Clone(p.left)
		s, e := store.Open(d)
		if want := p.open(); e != want {
			t.Errorf("Open: %d, not %d", e, want)
		}
		if e == api.OK {
			return s
		}
		d.Crash(nil)
		p.left, p.down = left, false
	}
	s := mustOpen(t, d)
	if e := p.open(); e != api.OK {
		t.Errorf("Open: it should have been %d", e)
	}
	return s
}

// openAgain keeps the elder store, where there is no power for another one.
func openAgain(t *testing.T, was *store.Store, d *disk.Disk, p *plain) *store.Store {
	t.Helper()
	s, e := store.Open(d)
	if want := p.open(); e != want {
		t.Errorf("Open: %d, not %d", e, want)
	}
	if e != api.OK {
		return was
	}
	return s
}
