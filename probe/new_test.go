package probe_test

import (
	"math"
	"testing"

	"watchfire/api"
	"watchfire/member"
	"watchfire/probe"
)

// holdNew holds the error that New answers, and that there is a probe just if it is none.
func holdNew(t *testing.T, self uint16, period, timeout int, want api.Errno) {
	t.Helper()
	p, err := probe.New(self, period, timeout)
	if err != want || (p != nil) != (want == api.OK) {
		t.Errorf("New(%d, %d, %d) = %v, %d, not %d", self, period, timeout, p, int(err), int(want))
	}
	holdNotAsked(t, p)
}

// P16.1: what may be, at each edge.
func TestNew(t *testing.T) {
	for _, self := range []uint16{0, 1, 62, 63} {
		for _, period := range []int{1, 2, 10, most - 1, 1 << 40} {
			for _, timeout := range []int{1, 2, 10, most - 1, 1 << 40} {
				holdNew(t, self, period, timeout, api.OK)
			}
		}
	}
}

// P16.1: a wrong self, a wrong period, a wrong timeout, and several wrong at once: self counts first.
func TestNewRefuses(t *testing.T) {
	wrong := []int{0, -1, -10, math.MinInt, 1<<40 + 1, 1 << 41, math.MaxInt}
	for _, self := range []uint16{64, 65, 127, 128, 32768, 65535} {
		for _, ticks := range append(wrong, 1, 10, most) {
			holdNew(t, self, ticks, 3, api.ErrArg)
			holdNew(t, self, 10, ticks, api.ErrArg)
			holdNew(t, self, ticks, ticks, api.ErrArg)
		}
	}
	for _, self := range []uint16{0, 5, 63} {
		for _, ticks := range wrong {
			for _, right := range []int{1, 10, most} {
				holdNew(t, self, ticks, right, api.ErrTime)
				holdNew(t, self, right, ticks, api.ErrTime)
			}
			for _, other := range wrong {
				holdNew(t, self, ticks, other, api.ErrTime)
			}
		}
	}
}

// P16.1: a new probe asked nobody, and its first question is due at 0, with the Seq 1; it is From self.
func TestNewAsksAtOnce(t *testing.T) {
	for _, self := range []uint16{0, 1, 62, 63} {
		for _, ticks := range []int{1, 10, most} {
			p, x := made(t, self, ticks, ticks), table(t, self, alive(7, 0))
			holdAck(t, p, 0, 0, false)
			holdAck(t, p, 7, 1, false)
			holdNotAsked(t, p)
			holdTick(t, p, 0, 0, x, outs(ping(self, 7, 1)), nil)
			holdAsked(t, p, 7, 1)
		}
	}
}

// P16.1: a new probe watches nobody, whoever is suspected in the table.
func TestNewWatchesNobody(t *testing.T) {
	x := member.New(5)
	for node := range uint16(64) {
		x.Hear(suspect(node, 0))
	}
	was := x.List()
	for _, now := range []int{0, 3, 30, most} {
		p := made(t, 5, 1, 1)
		holdTick(t, p, now, 0, x, outs(ping(5, 0, 1)), nil)
		holdTable(t, x, was...)
	}
}

// P16.1 to P16.3: the chapter's example.
func TestExample(t *testing.T) {
	p, x := made(t, 0, 10, 3), table(t, 0, alive(1, 0))
	holdTick(t, p, 0, 7, x, outs(ping(0, 1, 1)), nil)
	holdAsked(t, p, 1, 1)
	holdTick(t, p, 3, 7, x, nil, nil)
	holdAsked(t, p, 1, 1)
	holdTick(t, p, 10, 7, x, outs(ping(0, 1, 2)), members(suspect(1, 0)))
	holdTable(t, x, alive(0, 0), suspect(1, 0))
	holdAsked(t, p, 1, 2)
	holdTick(t, p, 40, 7, x, nil, members(dead(1, 0)))
	holdTable(t, x, alive(0, 0), dead(1, 0))
	holdNotAsked(t, p)
}

// P16.1: two probes have nothing in common, be they made alike, and be their table one.
func TestProbesAreApart(t *testing.T) {
	one, two := made(t, 0, 10, 3), made(t, 0, 10, 3)
	if one == two {
		t.Fatal("no probe of its own")
	}
	x := table(t, 0, alive(1, 0), suspect(2, 0))
	one.Watch(suspect(2, 0), 0)
	holdTick(t, one, 0, 0, x, outs(ping(0, 1, 1)), nil)
	holdNotAsked(t, two)
	holdNotWatched(t, two, x, 2)
	holdTick(t, two, 4, 1, x, outs(ping(0, 2, 1)), nil)
	holdAck(t, two, 2, 1, true)
	holdAsked(t, one, 1, 1)
	holdTick(t, one, 30, 0, x, outs(ping(0, 1, 2)), members(dead(2, 0), suspect(1, 0)))
	holdTick(t, two, 39, 0, x, outs(ping(0, 1, 2)), nil)
	holdTable(t, x, alive(0, 0), suspect(1, 0), dead(2, 0))
}

// steady is a probe with a question that is open, others that are watched, and a table: a Tick at 21 does all that may be due.
func steady(t *testing.T) (*probe.Probe, *member.Table) {
	t.Helper()
	p, x := made(t, 5, 10, 3), table(t, 5, alive(1, 4), suspect(2, 1), suspect(6, 0))
	p.Watch(suspect(6, 0), 0)
	p.Watch(suspect(2, 1), 0)
	holdTick(t, p, 11, 0, x, outs(ping(5, 1, 1)), nil)
	return p, x
}

// P16.2: times that may not be, and no probe or no table: nothing, and nothing changes.
func TestTickRefuses(t *testing.T) {
	var none *probe.Probe
	for _, now := range []int{-1, -10, math.MinInt, 1<<40 + 1, 1 << 41, math.MaxInt} {
		p, x := steady(t)
		holdQuiet(t, p, now, x)
		holdQuiet(t, none, now, x)
		holdTick(t, p, now, 0, nil, nil, nil)
		holdAsked(t, p, 1, 1)
		holdTick(t, p, 30, 0, x, outs(ping(5, 1, 2)), members(dead(2, 1), dead(6, 0), suspect(1, 4)))
	}
	for _, now := range []int{0, 11, 14, 21, 30, 33, most} {
		p, x := steady(t)
		holdTick(t, p, now, 0, nil, nil, nil)
		holdQuiet(t, none, now, x)
		holdTick(t, none, now, 0, nil, nil, nil)
		holdAsked(t, p, 1, 1)
		// It was not asked for help either.
		holdTick(t, p, 14, 0, x, outs(ask(5, 2, 1, 1)), nil)
		holdTick(t, p, 30, 0, x, outs(ping(5, 1, 2)), members(dead(2, 1), dead(6, 0), suspect(1, 4)))
	}
}

// P16.2: 0 and 2^40 are times; one tick more at each end is none.
func TestTickAtEdges(t *testing.T) {
	x := table(t, 5, alive(1, 0))
	p := made(t, 5, 10, 3)
	holdQuiet(t, p, -1, x)
	holdNotAsked(t, p)
	holdTick(t, p, 0, 0, x, outs(ping(5, 1, 1)), nil)

	p = made(t, 5, 10, 3)
	holdQuiet(t, p, most+1, x)
	holdNotAsked(t, p)
	holdTick(t, p, most, 0, x, outs(ping(5, 1, 1)), nil)
	// What is due behind the last time never is.
	holdAck(t, p, 1, 1, true)
	holdQuiet(t, p, most, x)
}

// P16.1, P16.2: the longest period and timeout.
func TestLongest(t *testing.T) {
	x := table(t, 5, alive(1, 0), alive(2, 0))
	p := made(t, 5, most, most)
	p.Watch(suspect(2, 0), 0)
	holdTick(t, p, 0, 1, x, outs(ping(5, 2, 1)), nil)
	holdQuiet(t, p, most-1, x)
	holdTick(t, p, most, 0, x, outs(ping(5, 1, 2)), members(suspect(2, 0)))

	// Three of the longest periods are never over.
	p, x = made(t, 5, most, 1), table(t, 5, suspect(1, 0), alive(2, 0))
	p.Watch(suspect(1, 0), 0)
	holdTick(t, p, 0, 1, x, outs(ping(5, 2, 1)), nil)
	holdTick(t, p, 1, 0, x, outs(ask(5, 1, 2, 1)), nil)
	holdTick(t, p, most, 0, x, outs(ping(5, 1, 2)), members(suspect(2, 0)))
	holdTable(t, x, suspect(1, 0), suspect(2, 0), alive(5, 0))
}
