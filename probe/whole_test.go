package probe_test

import (
	"math/rand"
	"slices"
	"testing"

	"watchfire/api"
	"watchfire/member"
	"watchfire/probe"
)

// crowd is a probe among nodes of which some never answer, tick by tick.
type crowd struct {
	p      *probe.Probe
	x      *member.Table
	period int
	// How many ticks an answer takes.
	delay int
	mute  map[uint16]bool
	// When a question comes to be answered; and by node, when it was suspected, and dead.
	answers         map[int]probe.Out
	suspected, gone map[uint16]int
}

// newCrowd makes a crowd of nodes from 0 on, with the probe's in their midst.
func newCrowd(t *testing.T, nodes, period, timeout, delay int, mute ...uint16) *crowd {
	t.Helper()
	self := uint16(nodes / 2)
	c := &crowd{p: made(t, self, period, timeout), x: member.New(self), period: period, delay: delay, mute: map[uint16]bool{}, answers: map[int]probe.Out{}, suspected: map[uint16]int{}, gone: map[uint16]int{}}
	for node := range uint16(nodes) {
		c.x.Hear(alive(node, 0))
	}
	for _, node := range mute {
		c.mute[node] = true
	}
	return c
}

// tick is one tick: answers that are there by then come ahead of it.
func (c *crowd) tick(t *testing.T, now int, draw uint32) {
	t.Helper()
	if out, is := c.answers[now]; is && !c.mute[out.To] {
		holdAck(t, c.p, out.To, out.Packet.Seq, true)
	}
	l, news := c.p.Tick(now, draw, c.x)
	for _, out := range l {
		if _, dead := c.gone[out.To]; dead {
			t.Errorf("at %d: %v to one that is dead", now, out)
		}
		if out.Packet.Kind == api.Ping {
			// A delay of 0 is an answer that comes in the same tick.
			c.answers[now+c.delay] = out
			if c.delay == 0 && !c.mute[out.To] {
				holdAck(t, c.p, out.To, out.Packet.Seq, true)
			}
		}
	}
	for _, m := range news {
		switch m.State {
		case api.Suspect:
			c.suspected[m.Node] = now
		case api.Dead:
			c.gone[m.Node] = now
		default:
			t.Errorf("at %d: %v", now, m)
		}
	}
}

// P16.4: who answers in time is never suspected; who never does is suspected, and dead just three periods later.
func TestWhoAnswers(t *testing.T) {
	source := rand.New(rand.NewSource(164))
	for _, c := range []struct {
		nodes, period int
		mute          []uint16
	}{
		{2, 1, nil}, {2, 1, []uint16{0}}, {2, 5, nil}, {2, 5, []uint16{0}}, {2, 10, []uint16{0}},
		{3, 2, []uint16{2}}, {3, 10, []uint16{0, 2}}, {5, 3, []uint16{1, 4}}, {8, 10, nil}, {8, 10, []uint16{0, 1, 2, 3, 5, 6, 7}},
		{64, 4, []uint16{0, 17, 31, 33, 63}}, {64, 1, []uint16{5, 6, 7}},
	} {
		for delay := range c.period {
			w := newCrowd(t, c.nodes, c.period, 1+source.Intn(12), delay, c.mute...)
			end := c.nodes * c.period * 20
			for now := range end {
				w.tick(t, now, source.Uint32())
			}
			for node := range uint16(c.nodes) {
				at, suspected := w.suspected[node]
				gone, dead := w.gone[node]
				if suspected != slices.Contains(c.mute, node) || suspected && (dead != (at+3*c.period < end) || dead && gone != at+3*c.period) {
					t.Errorf("%v, answers behind %d: %d suspected at %d, %v, dead at %d, %v", c, delay, node, at, suspected, gone, dead)
				}
			}
		}
	}
}

// P16.4: an answer that comes a tick too late is none: the node is suspected, and dead, if that is all it says.
func TestWhoAnswersTooLate(t *testing.T) {
	for _, period := range []int{1, 2, 10} {
		p, x := made(t, 0, period, 3), table(t, 0, alive(1, 0))
		holdTick(t, p, 0, 0, x, outs(ping(0, 1, 1)), nil)
		for now := 1; now < period; now++ {
			holdQuiet(t, p, now, x)
		}
		holdTick(t, p, period, 0, x, outs(ping(0, 1, 2)), members(suspect(1, 0)))
		holdAck(t, p, 1, 1, false)
		// From then on it answers, but does not say otherwise.
		holdAck(t, p, 1, 2, true)
		for now := period + 1; now < 4*period; now++ {
			if _, news := p.Tick(now, 0, x); len(news) > 0 {
				t.Errorf("at %d: %v", now, news)
			}
			answer(t, p)
		}
		holdTick(t, p, 4*period, 0, x, nil, members(dead(1, 0)))
	}
}

// P16.4: who says otherwise ahead of the three periods, at the last tick, too, is not dead; one tick later it is.
func TestWhoSaysOtherwise(t *testing.T) {
	for _, at := range []int{10, 11, 25, 39, 40} {
		p, x := asking(t, 10, 3, 2, 0), table(t, 5, alive(2, 0), alive(3, 0))
		holdTick(t, p, 10, 1, x, outs(ping(5, 3, 2)), members(suspect(2, 0)))
		for now := 11; now < at; now++ {
			answer(t, p)
			p.Tick(now, 1, x)
		}
		answer(t, p)
		x.Hear(alive(2, 1))
		for now := at; now < 100; now++ {
			if _, news := p.Tick(now, 1, x); len(news) > 0 {
				t.Errorf("said at %d; at %d: %v", at, now, news)
			}
			answer(t, p)
		}
		holdTable(t, x, alive(2, 1), alive(3, 0), alive(5, 0))
	}
	p, x := asking(t, 10, 3, 2, 0), table(t, 5, alive(2, 0))
	holdTick(t, p, 10, 0, x, outs(ping(5, 2, 2)), members(suspect(2, 0)))
	holdTick(t, p, 40, 0, x, nil, members(dead(2, 0)))
	// It is there again by a higher incarnation, and is asked.
	x.Hear(alive(2, 1))
	holdTick(t, p, 41, 0, x, outs(ping(5, 2, 3)), nil)
}

// P16.4: who says otherwise, and is suspected again, has three periods anew, with its next incarnation.
func TestWhoIsSuspectedAgain(t *testing.T) {
	p, x := asking(t, 10, 3, 2, 0), table(t, 5, alive(2, 0))
	for round := range 30 {
		now := 10 + 10*round
		holdTick(t, p, now, 0, x, outs(ping(5, 2, 2+round)), members(suspect(2, round)))
		holdWatched(t, p, x, 2, now+30)
		x.Hear(alive(2, round+1))
	}
	holdTick(t, p, 310, 0, x, outs(ping(5, 2, 32)), members(suspect(2, 30)))
	for now := 311; now < 340; now++ {
		if _, news := p.Tick(now, 0, x); len(news) > 0 {
			t.Errorf("at %d: %v", now, news)
		}
	}
	holdTick(t, p, 340, 0, x, nil, members(dead(2, 30)))
}

// P16.4: who was suspected by another node, and is watched by that, is dead after three periods, too, however often it is asked meanwhile.
func TestWhoIsSuspectedByOthers(t *testing.T) {
	for _, from := range []int{0, 1, 4, 9, 10} {
		p, x := made(t, 5, 10, 3), table(t, 5, alive(2, 0))
		for now := range from + 30 {
			if now == from {
				m, _ := x.Hear(suspect(2, 0))
				p.Watch(m, now)
			}
			if _, news := p.Tick(now, 0, x); len(news) > 0 {
				t.Errorf("watched from %d; at %d: %v", from, now, news)
			}
		}
		holdTick(t, p, from+30, 0, x, nil, members(dead(2, 0)))
	}
}
