package cluster

import (
	"fmt"
	"slices"
	"testing"

	"gazette/api"
)

// faulty is a fleet in which some can't be started. It notes who was to be.
type faulty struct {
	fleet
	kind   int
	faults map[int]api.Errno
	notes  *[]string
}

func (f faulty) start(i int, choices []int) api.Errno {
	*f.notes = append(*f.notes, fmt.Sprint(f.kind, " ", i, " ", choices))
	if e, is := f.faults[i]; is {
		return e
	}
	return f.fleet.start(i, choices)
}

func mustTwo(t *testing.T) *Cluster {
	t.Helper()
	c, e := New(Spec{Nodes: 2, Acceptors: 2, Brokers: 2, Parts: 1, Session: 1, Blocks: 20})
	if e != api.OK {
		t.Fatalf("New: %d", e)
	}
	return c
}

// P1807

// TestTheFirstErrorOfAStart: nodes come first, then acceptors, then brokers; and it goes on behind each error.
func TestTheFirstErrorOfAStart(t *testing.T) {
	for _, x := range []struct {
		faults [kinds]map[int]api.Errno
		want   api.Errno
	}{
		{want: api.OK},
		{[kinds]map[int]api.Errno{{0: 21, 1: 22}, {0: 23}, {0: 24}}, 21},
		{[kinds]map[int]api.Errno{{1: 22}, {0: 23}, {0: 24}}, 22},
		{[kinds]map[int]api.Errno{{}, {0: 23, 1: 25}, {0: 24}}, 23},
		{[kinds]map[int]api.Errno{{}, {1: 25}, {1: 26}}, 25},
		{[kinds]map[int]api.Errno{{}, {}, {0: 24, 1: 26}}, 24},
		{[kinds]map[int]api.Errno{{}, {}, {1: 26}}, 26},
	} {
		c := mustTwo(t)
		var notes []string
		for kind, f := range c.fleets {
			for i := range f.count() {
				f.stop(i)
			}
			c.fleets[kind] = faulty{f, kind, x.faults[kind], &notes}
		}
		if e := c.Well(); e != x.want {
			t.Errorf("Well with %v: %d, not %d", x.faults, e, x.want)
		}
		if want := []string{"0 0 []", "0 1 []", "1 0 []", "1 1 []", "2 0 []", "2 1 []"}; !slices.Equal(notes, want) {
			t.Errorf("Well with %v: %q", x.faults, notes)
		}
		for kind, f := range c.fleets {
			for i := range f.count() {
				if _, is := x.faults[kind][i]; c.Up(kind, i) == is {
					t.Errorf("Well with %v: Up(%d, %d): %v", x.faults, kind, i, !is)
				}
			}
		}
	}
}

// TestDeedsInARow: all of them are done, and the first error is told.
func TestDeedsInARow(t *testing.T) {
	for _, x := range []struct {
		answers []api.Errno
		want    api.Errno
	}{{nil, 0}, {[]api.Errno{0}, 0}, {[]api.Errno{21}, 21}, {[]api.Errno{21, 22, 0}, 21}, {[]api.Errno{0, 22, 23}, 22}, {[]api.Errno{0, 0, 23}, 23}} {
		c := mustTwo(t)
		var deeds []deed
		var done []api.Errno
		for _, e := range x.answers {
			deeds = append(deeds, func(f fleet, i int) api.Errno {
				if f.count() != 2 || i != 1 {
					t.Errorf("it befalls %d of %d", i, f.count())
				}
				done = append(done, e)
				return e
			})
		}
		if e := c.befall(Node, 1, deeds...); e != x.want || !slices.Equal(done, x.answers) {
			t.Errorf("deeds that answer %v: %d, not %d; done were %v", x.answers, e, x.want, done)
		}
		done = nil
		if e := c.befall(Node, 2, deeds...); e != api.ErrNone || done != nil {
			t.Errorf("deeds that befall nobody: %d, %v", e, done)
		}
	}
}
