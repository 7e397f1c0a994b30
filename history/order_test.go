package history_test

import (
	"testing"

	"gazette/api"
	"gazette/history"
)

// P2002, P2004

func TestCheck(t *testing.T) {
	a, b := put("a", 0, 1, 0), put("b", 2, 3, 1)
	for name, x := range map[string]struct {
		l    []history.Call
		want api.Errno
	}{
		"a read behind it":                  {[]history.Call{a, get(2, 3, "a")}, api.OK},
		"a read behind it shows nothing":    {[]history.Call{a, get(2, 3)}, api.ErrOrder},
		"a read beside it":                  {[]history.Call{put("a", 0, 5, 0), get(2, 3)}, api.OK},
		"a read that began as it ended":     {[]history.Call{a, get(1, 2)}, api.OK},
		"and shows it":                      {[]history.Call{a, get(1, 2, "a")}, api.OK},
		"a read that ended as it began":     {[]history.Call{get(0, 1, "a"), put("a", 1, 2, 0)}, api.OK},
		"a read that ended one before":      {[]history.Call{get(0, 1, "a"), put("a", 2, 3, 0)}, api.ErrOrder},
		"a read ahead of it":                {[]history.Call{get(0, 1), put("a", 2, 3, 0)}, api.OK},
		"not done, and shown":               {[]history.Call{open("a", 0), get(1, 2, "a")}, api.OK},
		"not done, and not shown":           {[]history.Call{open("a", 0), get(1, 2)}, api.OK},
		"not done, shown as it began":       {[]history.Call{open("a", 2), get(1, 2, "a")}, api.OK},
		"not done, shown too early":         {[]history.Call{open("a", 3), get(1, 2, "a")}, api.ErrOrder},
		"shown, and then gone":              {[]history.Call{open("a", 0), get(1, 2, "a"), get(3, 4)}, api.ErrOrder},
		"shown beside one that does not":    {[]history.Call{open("a", 0), get(1, 2, "a"), get(2, 4)}, api.OK},
		"not shown, and then shown":         {[]history.Call{open("a", 0), get(1, 2), get(3, 4, "a")}, api.OK},
		"what no append wrote":              {[]history.Call{get(0, 1, "x")}, api.ErrOrder},
		"what no append wrote, behind it":   {[]history.Call{a, get(2, 3, "a", "x")}, api.ErrOrder},
		"what a read that is not done says": {[]history.Call{ask(0), a, ask(5)}, api.OK},
		"nothing, shown as a value":         {[]history.Call{get(0, 1, "")}, api.ErrOrder},
		"the same value twice":              {[]history.Call{a, get(2, 3, "a", "a")}, api.ErrOrder},
		"the same value twice, not done":    {[]history.Call{open("a", 0), get(2, 3, "a", "a")}, api.ErrOrder},
		"at another place than told":        {[]history.Call{a, open("b", 0), get(2, 3, "b", "a")}, api.ErrOrder},
		"at a place that another was told":  {[]history.Call{a, open("b", 0), get(0, 3, "b")}, api.ErrOrder},
		"two reads at odds":                 {[]history.Call{open("a", 0), open("b", 0), get(0, 9, "a"), get(0, 9, "b")}, api.ErrOrder},
		"two reads at odds on the order":    {[]history.Call{open("a", 0), open("b", 0), get(0, 9, "a", "b"), get(0, 9, "b", "a")}, api.ErrOrder},
		"two reads that agree":              {[]history.Call{open("a", 0), open("b", 0), get(0, 9, "a", "b"), get(0, 9, "a")}, api.OK},
		"a longer one ahead":                {[]history.Call{open("a", 0), open("b", 0), get(0, 1, "a", "b"), get(2, 9, "a")}, api.ErrOrder},
		"a longer one ahead, side by side":  {[]history.Call{open("a", 0), open("b", 0), get(0, 2, "a", "b"), get(2, 9, "a")}, api.OK},
		"two with one offset":               {[]history.Call{a, put("b", 0, 1, 0)}, api.ErrOrder},
		"two with one offset, far apart":    {[]history.Call{a, put("b", 8, 9, 0)}, api.ErrOrder},
		"one behind the other":              {[]history.Call{a, b}, api.OK},
		"the second one first":              {[]history.Call{put("a", 0, 1, 1), put("b", 2, 3, 0)}, api.ErrOrder},
		"the second one first, as it ended": {[]history.Call{put("a", 0, 2, 1), put("b", 2, 3, 0)}, api.OK},
		"a gap":                             {[]history.Call{put("a", 0, 1, 1)}, api.ErrOrder},
		"a gap between":                     {[]history.Call{a, put("b", 2, 3, 2)}, api.ErrOrder},
		"a gap that one fills":              {[]history.Call{put("a", 0, 1, 1), open("b", 0)}, api.OK},
		"one that began as it ended":        {[]history.Call{put("a", 0, 1, 1), open("b", 1)}, api.OK},
		"one that began too late":           {[]history.Call{put("a", 0, 1, 1), open("b", 2)}, api.ErrOrder},
		"one that is told elsewhere":        {[]history.Call{put("a", 0, 9, 1), put("b", 0, 9, 2)}, api.ErrOrder},
		"one that is shown elsewhere":       {[]history.Call{put("c", 0, 9, 2), open("a", 0), get(0, 9, "a")}, api.ErrOrder},
		"one that is shown, and another":    {[]history.Call{put("c", 0, 9, 2), open("a", 0), open("b", 9), get(0, 9, "a")}, api.OK},
		"two gaps, one to fill them":        {[]history.Call{put("c", 0, 9, 2), open("a", 0)}, api.ErrOrder},
		"a read between":                    {[]history.Call{a, b, get(1, 2, "a"), get(0, 0+1), get(3, 4, "a", "b")}, api.OK},
		"a read between shows too much":     {[]history.Call{a, put("b", 4, 5, 1), get(2, 3, "a", "b")}, api.ErrOrder},
		"one read beside, one ahead":        {[]history.Call{get(0, 9), get(1, 2), put("a", 3, 4, 0), get(5, 6, "a")}, api.OK},
		"shown at the end of all times":     {[]history.Call{open("a", lastTime), open("b", lastTime), get(0, lastTime, "a", "b")}, api.OK},
		"shown just ahead of it":            {[]history.Call{open("a", lastTime), get(0, lastTime-1, "a")}, api.ErrOrder},
		"more than it needs":                {[]history.Call{a, open("x", 0), open("y", 0), open("z", 9), get(9, 10, "a")}, api.OK},
	} {
		t.Run(name, func(t *testing.T) {
			check(t, x.l, x.want)
			if e := plainCheck(x.l); e != x.want {
				t.Errorf("the plain one: %d", e)
			}
		})
	}
}

// TestWhoFillsTheGaps: those that began first are needed ahead, and one that is shown is not there for a gap.
func TestWhoFillsTheGaps(t *testing.T) {
	for _, x := range []struct {
		begins []int // of appends that are not done
		want   api.Errno
	}{
		{[]int{0, 0}, api.OK}, {[]int{5, 9}, api.OK}, {[]int{9, 5}, api.OK}, {[]int{5, 10}, api.ErrOrder}, {[]int{6, 6}, api.ErrOrder},
		{[]int{6, 9}, api.ErrOrder}, {[]int{5}, api.ErrOrder}, {[]int{9, 9, 9, 5}, api.OK}, {[]int{9, 5, 0, 10}, api.OK},
		{[]int{10, 10, 10, 0}, api.ErrOrder}, {nil, api.ErrOrder},
	} {
		// The place 1 is to be filled by what began at 5 at the latest, the place 3 by what began at 9.
		l := []history.Call{put("a", 0, 1, 0), put("c", 3, 5, 2), put("e", 3, 9, 4)}
		for i, begin := range x.begins {
			l = append(l, open(values(i, i+1)[0], begin))
		}
		check(t, l, x.want)
		// What is shown has to stand where it is shown, though another one would do better.
		l = append(l, open("b", 5), get(0, 10, "a", "b"))
		want := api.ErrOrder
		for _, begin := range x.begins {
			if begin <= 9 {
				want = api.OK
			}
		}
		check(t, l, want)
		if e := plainCheck(l); len(l) < 8 && e != want {
			t.Errorf("the plain one: %d", e)
		}
	}
}

// TestOneOrderAlone: of calls that all run side by side, where only one order will do, and of those that one more word spoils.
func TestOneOrderAlone(t *testing.T) {
	var l []history.Call
	names := values(0, 20)
	for i, v := range names {
		l = append(l, get(0, 9, names[:i]...), put(v, 0, 9, i))
	}
	check(t, l, api.OK)
	for i := range l {
		m := clone(l)
		switch c := &m[i]; {
		case !c.Read:
			c.Offset = (c.Offset + 1) % 20
		case len(c.Values) > 1:
			c.Values[0], c.Values[1] = c.Values[1], c.Values[0]
		default:
			c.Values = []string{"1"}
		}
		check(t, m, api.ErrOrder)
	}
	// One behind the other in time, too: then no two of them can have each other's times.
	for i := range l {
		l[i].Begin, l[i].End = 10*i, 10*i+9
	}
	check(t, l, api.OK)
	for i := range l {
		for j := range l[:i] {
			m := clone(l)
			m[i].Begin, m[i].End, m[j].Begin, m[j].End = m[j].Begin, m[j].End, m[i].Begin, m[i].End
			check(t, m, api.ErrOrder)
		}
	}
	// Where each ends as the next one begins, two neighbours can change places in time, but no others.
	for i := range l {
		l[i].End = 10*i + 10
	}
	for i := range l {
		for j := range l[:i] {
			m := clone(l)
			m[i].Begin, m[i].End, m[j].Begin, m[j].End = m[j].Begin, m[j].End, m[i].Begin, m[i].End
			want := api.ErrOrder
			if i-j == 1 {
				want = api.OK
			}
			check(t, m, want)
		}
	}
}
