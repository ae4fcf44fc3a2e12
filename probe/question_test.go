package probe_test

import (
	"math"
	"slices"
	"testing"

	"watchfire/api"
	"watchfire/member"
	"watchfire/probe"
)

// asking makes a probe of node 5 whose first question is to a node, at a time.
func asking(t *testing.T, period, timeout int, node uint16, now int) *probe.Probe {
	t.Helper()
	p := made(t, 5, period, timeout)
	holdTick(t, p, now, 0, table(t, 5, alive(node, 0)), outs(ping(5, node, 1)), nil)
	return p
}

// P16.2: who is there is asked, by the place that is drawn of the others, rising; self and those that are dead are none of them.
func TestDrawn(t *testing.T) {
	for _, c := range []struct {
		heard []api.Member
		want  []uint16
	}{
		{members(alive(1, 0)), []uint16{1}},
		{members(suspect(63, 4)), []uint16{63}},
		{members(alive(9, 0), alive(2, 0)), []uint16{2, 9}},
		{members(alive(9, 0), suspect(4, 0), dead(6, 0), alive(0, 0), dead(1, 3), alive(63, 0)), []uint16{0, 4, 9, 63}},
		{members(dead(0, 0), suspect(6, 0), suspect(7, 2), suspect(8, highest)), []uint16{6, 7, 8}},
		// Self is none of the others, also if it is not there by its own table.
		{members(alive(4, 0), alive(6, 0), dead(5, highest)), []uint16{4, 6}},
	} {
		draws := []uint32{math.MaxUint32, math.MaxUint32 - 1, math.MaxUint32 - 2, 1 << 31, 1<<31 - 1, 1 << 16, 1000, 64, 63}
		for draw := range uint32(3 * len(c.want)) {
			draws = append(draws, draw)
		}
		for _, draw := range draws {
			x := table(t, 5, c.heard...)
			node := c.want[int(draw)%len(c.want)]
			p := made(t, 5, 10, 3)
			holdTick(t, p, 4, draw, x, outs(ping(5, node, 1)), nil)
			holdAsked(t, p, node, 1)
			// The one that is asked is none of those who may help.
			helpers := slices.DeleteFunc(slices.Clone(c.want), func(other uint16) bool { return other == node })
			for _, helpDraw := range draws {
				f := p.Fork()
				if len(helpers) == 0 {
					holdTick(t, f, 7, helpDraw, x, nil, nil)
				} else {
					holdTick(t, f, 7, helpDraw, x, outs(ask(5, helpers[int(helpDraw)%len(helpers)], node, 1)), nil)
				}
				holdAsked(t, f, node, 1)
			}
		}
	}
}

// P16.2: of all 63 others each one is drawn, and of 62 each one is asked for help, at both ends of draws.
func TestDrawnOfAll(t *testing.T) {
	for _, self := range []uint16{0, 5, 63} {
		x := member.New(self)
		var others []uint16
		for node := range uint16(64) {
			x.Hear(alive(node, 0))
			if node != self {
				others = append(others, node)
			}
		}
		for i, node := range others {
			// 63 times 68,174,084 is 2^32 - 4.
			for _, draw := range []uint32{uint32(i), uint32(i + 63), uint32(i) + 63*68_174_083} {
				p := made(t, self, 10, 3)
				holdTick(t, p, 0, draw, x, outs(ping(self, node, 1)), nil)
				for j, helper := range slices.Delete(slices.Clone(others), i, i+1) {
					f := p.Fork()
					holdTick(t, f, 3, uint32(j), x, outs(ask(self, helper, node, 1)), nil)
					f = p.Fork()
					holdTick(t, f, 3, uint32(j)+62*69_273_665, x, outs(ask(self, helper, node, 1)), nil)
				}
			}
		}
	}
}

// P16.2: the others are without the probe's own node, also where the table is another node's.
func TestDrawnOfAnotherTable(t *testing.T) {
	p := made(t, 5, 10, 3)
	holdTick(t, p, 0, 1, table(t, 1, alive(5, 0), alive(7, 0)), outs(ping(5, 7, 1)), nil)
	holdTick(t, p, 3, 0, table(t, 1, alive(5, 0), alive(7, 0)), outs(ask(5, 1, 7, 1)), nil)
	p = made(t, 5, 10, 3)
	holdTick(t, p, 0, 0, table(t, 1, alive(5, 0)), outs(ping(5, 1, 1)), nil)
}

// P16.2: help is asked for a timeout behind the question, and not one tick ahead; with the question's Seq, and once.
func TestTimeout(t *testing.T) {
	for _, now := range []int{0, 1, 100, 1 << 39} {
		for _, timeout := range []int{1, 2, 3, 9} {
			x := table(t, 5, alive(1, 0), alive(2, 0), alive(3, 0))
			p := asking(t, 10, timeout, 2, now)
			for ahead := now; ahead < now+timeout; ahead++ {
				holdQuiet(t, p, ahead, x)
			}
			f := p.Fork()
			holdTick(t, p, now+timeout, 0, x, outs(ask(5, 1, 2, 1)), nil)
			holdAsked(t, p, 2, 1)
			for behind := now + timeout; behind < now+10; behind++ {
				holdQuiet(t, p, behind, x)
				late := f.Fork()
				holdTick(t, late, behind, 1, x, outs(ask(5, 3, 2, 1)), nil)
				holdQuiet(t, late, behind, x)
			}
			holdTick(t, p, now+10, 0, x, outs(ping(5, 1, 2)), members(suspect(2, 0)))
		}
	}
}

// P16.2: with nobody to help, help was asked for all the same: those that come then are not asked.
func TestTimeoutWithNobody(t *testing.T) {
	for _, x := range []*member.Table{table(t, 5), table(t, 5, alive(2, 0)), table(t, 5, dead(1, 0), suspect(2, 0)), table(t, 2, alive(5, 0))} {
		p := asking(t, 10, 3, 2, 4)
		holdQuiet(t, p, 6, x)
		f := p.Fork()
		holdQuiet(t, p, 7, x)
		holdAsked(t, p, 2, 1)
		x = table(t, 5, alive(1, 0), alive(2, 0))
		holdQuiet(t, p, 8, x)
		holdQuiet(t, p, 13, x)
		// Had nobody been asked for by then, they would be.
		holdTick(t, f, 8, 0, x, outs(ask(5, 1, 2, 1)), nil)
	}
}

// P16.2: one of many helps, also if the one that was asked is dead, or not there, by then.
func TestTimeoutOfOneThatIsGone(t *testing.T) {
	for _, x := range []*member.Table{table(t, 5, alive(1, 0), dead(2, 0), suspect(7, 0)), table(t, 5, alive(1, 0), suspect(7, 0))} {
		for draw, helper := range []uint16{1, 7, 1, 7} {
			p := asking(t, 10, 3, 2, 4)
			holdTick(t, p, 7, uint32(draw), x, outs(ask(5, helper, 2, 1)), nil)
			holdAsked(t, p, 2, 1)
		}
	}
}

// P16.2: a timeout that is not below the period never is: nobody is asked for help.
func TestTimeoutAbovePeriod(t *testing.T) {
	for _, timeout := range []int{10, 11, 25, most} {
		x := table(t, 5, alive(1, 0), alive(2, 0))
		p := asking(t, 10, timeout, 2, 0)
		for now := range 10 {
			holdQuiet(t, p, now, x)
		}
		holdTick(t, p, 10, 0, x, outs(ping(5, 1, 2)), members(suspect(2, 0)))
	}
	// Behind both, the question is given up, and none is asked for help any more.
	for _, now := range []int{10, 11, 40, most} {
		x := table(t, 5, alive(1, 0), alive(2, 0))
		holdTick(t, asking(t, 10, 3, 2, 0), now, 0, x, outs(ping(5, 1, 2)), members(suspect(2, 0)))
	}
}

// P16.2: each question may have its own help; what was asked ahead does not count.
func TestTimeoutOfEachQuestion(t *testing.T) {
	p, x := made(t, 5, 10, 3), table(t, 5, alive(1, 0), alive(2, 0))
	for round := range 50 {
		now, seq := 10*round, round+1
		holdTick(t, p, now, uint32(round), x, outs(ping(5, uint16(1+round%2), seq)), nil)
		holdQuiet(t, p, now+2, x)
		holdTick(t, p, now+3, uint32(round), x, outs(ask(5, uint16(2-round%2), uint16(1+round%2), seq)), nil)
		holdQuiet(t, p, now+4, x)
		holdAck(t, p, uint16(1+round%2), seq, true)
		holdQuiet(t, p, now+9, x)
	}
}

// P16.2: a question is given up a period behind it, and not one tick ahead: then its node is suspected, and watched from then on.
func TestPeriod(t *testing.T) {
	for _, now := range []int{0, 1, 100, 1 << 39} {
		for _, period := range []int{1, 2, 10, 77} {
			for _, late := range []int{0, 1, 5, 1000} {
				for _, heard := range []api.Member{alive(2, 0), alive(2, 1), alive(2, highest)} {
					x := table(t, 5, heard, alive(9, 0))
					p := asking(t, period, most, 2, now)
					holdQuiet(t, p, now+period-1, x)
					holdAsked(t, p, 2, 1)
					at, told := now+period+late, suspect(2, heard.Incarnation)
					holdTick(t, p, at, 1, x, outs(ping(5, 9, 2)), members(told))
					holdTable(t, x, told, alive(5, 0), alive(9, 0))
					holdAsked(t, p, 9, 2)
					holdAck(t, p, 2, 1, false)
					holdAck(t, p, 9, 2, true)
					holdWatched(t, p, x, 2, at+3*period)
				}
			}
		}
	}
}

// P16.2: one that said otherwise meanwhile is suspected with the incarnation that the table has of it then.
func TestPeriodBehindNews(t *testing.T) {
	p, x := asking(t, 10, 3, 2, 0), table(t, 5, alive(2, 0))
	x.Merge(members(suspect(2, 0), dead(2, 6), alive(2, 7)))
	p.Watch(suspect(2, 0), 1)
	holdTick(t, p, 10, 0, x, outs(ping(5, 2, 2)), members(suspect(2, 7)))
	holdTable(t, x, suspect(2, 7), alive(5, 0))
	holdWatched(t, p, x, 2, 40)
}

// P16.2: one that is dead by then is neither suspected nor watched.
func TestPeriodOfDead(t *testing.T) {
	for _, incarnation := range []int{0, 1, highest} {
		p, x := asking(t, 10, 3, 2, 0), table(t, 5, dead(2, incarnation))
		holdQuiet(t, p, 9, x)
		holdAsked(t, p, 2, 1)
		holdQuiet(t, p, 10, x)
		holdNotAsked(t, p)
		holdNotWatched(t, p, table(t, 5, suspect(2, incarnation)), 2)
	}
}

// P16.2: one that the table does not have is neither suspected nor watched, and the table does not come to have it.
func TestPeriodOfOneNotThere(t *testing.T) {
	p, x := asking(t, 10, 3, 2, 0), table(t, 5, alive(1, 0))
	holdTick(t, p, 10, 0, x, outs(ping(5, 1, 2)), nil)
	holdTable(t, x, alive(1, 0), alive(5, 0))
	holdAck(t, p, 1, 2, true)
	holdNotWatched(t, p, table(t, 5, suspect(2, 0)), 2)

	// The same of node 0, whose member would be zero.
	p, x = asking(t, 10, 3, 0, 0), table(t, 5)
	holdQuiet(t, p, 10, x)
	holdNotAsked(t, p)
	holdTable(t, x, alive(5, 0))
}

// P16.2: one that was told to be suspect ahead is no news; it is watched from then on, if it was not.
func TestPeriodOfSuspect(t *testing.T) {
	p, x := asking(t, 10, 3, 2, 0), table(t, 5, suspect(2, 3))
	holdNotWatched(t, p, x, 2)
	holdTick(t, p, 12, 0, x, outs(ping(5, 2, 2)), nil)
	holdTable(t, x, suspect(2, 3), alive(5, 0))
	holdWatched(t, p, x, 2, 42)
}

// P16.2, P16.4: one that was watched ahead with that incarnation is dead three periods behind that time: a question that is given up gives it no more of them.
func TestPeriodOfWatched(t *testing.T) {
	p, x := asking(t, 10, 3, 2, 0), table(t, 5, suspect(2, 3))
	p.Watch(suspect(2, 3), 4)
	holdTick(t, p, 10, 0, x, outs(ping(5, 2, 2)), nil)
	holdWatched(t, p, x, 2, 34)
	holdTick(t, p, 20, 0, x, outs(ping(5, 2, 3)), nil)
	holdWatched(t, p, x, 2, 34)
	holdTick(t, p, 30, 0, x, outs(ping(5, 2, 4)), nil)
	holdWatched(t, p, x, 2, 34)
	holdTick(t, p, 34, 0, x, nil, members(dead(2, 3)))

	// One that was watched with another incarnation is watched with its own now.
	for _, other := range []int{2, 4} {
		p, x = asking(t, 10, 3, 2, 0), table(t, 5, suspect(2, 3))
		p.Watch(suspect(2, other), 4)
		holdTick(t, p, 10, 0, x, outs(ping(5, 2, 2)), nil)
		holdWatched(t, p, x, 2, 40)
	}
}

// P16.2: the table's own node, where that is not the probe's, says otherwise: that is told, and it is not watched; at the highest incarnation it can't.
func TestPeriodOfSelfOfTable(t *testing.T) {
	p, x := asking(t, 10, 3, 2, 0), table(t, 2, alive(2, 6))
	holdTick(t, p, 10, 0, x, outs(ping(5, 2, 2)), members(alive(2, 7)))
	holdTable(t, x, alive(2, 7))
	for _, incarnation := range []int{0, 6, 7} {
		holdNotWatched(t, p, table(t, 5, suspect(2, incarnation)), 2)
	}

	p, x = asking(t, 10, 3, 2, 0), table(t, 2, alive(2, highest))
	holdTick(t, p, 10, 0, x, outs(ping(5, 2, 2)), members(suspect(2, highest)))
	holdWatched(t, p, x, 2, 40)
}

// P16.2: at a time ahead of its own a question stays open, and nobody is asked anything.
func TestQuestionAtTimesAhead(t *testing.T) {
	x := table(t, 5, alive(1, 0), alive(2, 0))
	p := asking(t, 10, 3, 2, 1000)
	for _, now := range []int{999, 990, 500, 1, 0} {
		holdQuiet(t, p, now, x)
		holdAsked(t, p, 2, 1)
	}
	holdTick(t, p, 1003, 0, x, outs(ask(5, 1, 2, 1)), nil)
	holdAck(t, p, 2, 1, true)
	holdQuiet(t, p, 0, x)
	holdQuiet(t, p, 1009, x)
	holdTick(t, p, 1010, 0, x, outs(ping(5, 1, 2)), nil)
}

// P16.2: the next question is due a period behind the last one, and not one tick ahead, however soon that was answered.
func TestNextIsDue(t *testing.T) {
	for _, now := range []int{0, 1, 33, 1 << 39} {
		for _, period := range []int{1, 2, 10, 77} {
			for _, answered := range []int{0, 1, period - 1} {
				x := table(t, 5, alive(1, 0), alive(2, 0))
				p := asking(t, period, most, 2, now)
				holdQuiet(t, p, now+min(answered, period-1), x)
				holdAck(t, p, 2, 1, true)
				holdQuiet(t, p, now+period-1, x)
				holdNotAsked(t, p)
				f := p.Fork()
				holdTick(t, p, now+period, 0, x, outs(ping(5, 1, 2)), nil)
				// If it is asked late, the one behind it is due a period behind that.
				holdTick(t, f, now+period+5, 0, x, outs(ping(5, 1, 2)), nil)
				holdAck(t, f, 1, 2, true)
				holdQuiet(t, f, now+2*period+4, x)
				holdTick(t, f, now+2*period+5, 1, x, outs(ping(5, 2, 3)), nil)
			}
		}
	}
}

// P16.2: at the very tick at which one is given up, the next one is asked, late or not; the draw is of the others as they are then.
func TestNextBehindOneGivenUp(t *testing.T) {
	for _, late := range []int{0, 1, 9, 10, 100} {
		for draw, node := range []uint16{1, 2, 7, 1} {
			p, x := asking(t, 10, 3, 2, 4), table(t, 5, alive(1, 0), alive(2, 0), alive(7, 0))
			holdTick(t, p, 14+late, uint32(draw), x, outs(ping(5, node, 2)), members(suspect(2, 0)))
			holdAsked(t, p, node, 2)
			holdAck(t, p, node, 2, true)
			holdQuiet(t, p, 23+late, x)
			holdTick(t, p, 24+late, 0, x, outs(ping(5, 1, 3)), nil)
		}
	}
}

// P16.2: with no others nobody is asked, and the next question stays due, till there is one.
func TestNextWithNobody(t *testing.T) {
	for _, x := range []*member.Table{table(t, 5), table(t, 5, dead(1, 0)), table(t, 5, dead(5, highest))} {
		p := made(t, 5, 10, 3)
		for _, now := range []int{0, 1, 9, 10, 25} {
			holdQuiet(t, p, now, x)
			holdNotAsked(t, p)
		}
		x.Hear(alive(1, 1))
		holdTick(t, p, 26, 0, x, outs(ping(5, 1, 1)), nil)
		holdAck(t, p, 1, 1, true)
		holdQuiet(t, p, 35, x)
		f := p.Fork()
		holdTick(t, f, 36, 0, x, outs(ping(5, 1, 2)), nil)

		// The same behind a question: one tick ahead of the time at which the next one is due, just then, and behind it.
		x.Hear(dead(1, 1))
		for _, now := range []int{35, 36, 37, 50} {
			holdQuiet(t, p, now, x)
			holdNotAsked(t, p)
		}
		x.Hear(alive(2, 0))
		holdTick(t, p, 51, 0, x, outs(ping(5, 2, 2)), nil)
	}
}

// P16.2: with no others a question is given up all the same, and the next one is due at once.
func TestGivenUpWithNobody(t *testing.T) {
	p, x := asking(t, 10, 3, 2, 4), table(t, 5, dead(2, 0))
	holdQuiet(t, p, 14, x)
	holdNotAsked(t, p)
	holdQuiet(t, p, 15, x)
	x.Hear(alive(1, 0))
	holdTick(t, p, 15, 0, x, outs(ping(5, 1, 2)), nil)
	holdQuiet(t, p, 24, x)
	holdTick(t, p, 25, 0, x, outs(ping(5, 1, 3)), members(suspect(1, 0)))
}

// P16.2: the Seqs go on by one with each question, be the last one answered or given up, and whoever was asked; with none of those that nobody could be asked.
func TestSeqs(t *testing.T) {
	p, x, alone := made(t, 5, 10, 3), table(t, 5, alive(1, 0), alive(2, 0), alive(9, 0)), table(t, 5)
	asked := 0
	for round := range 1000 {
		now := 10 * round
		if round%7 == 6 {
			p.Tick(now, uint32(round), alone)
			if _, _, is := p.Asked(); is {
				t.Fatalf("asked somebody at %d", now)
			}
			continue
		}
		asked++
		l, _ := p.Tick(now, uint32(round), x)
		if len(l) != 1 || l[0].Packet.Kind != api.Ping || l[0].Packet.Seq != asked || l[0].Packet.From != 5 || l[0].Packet.About != l[0].To {
			t.Fatalf("at %d: %v, the Seq is to be %d", now, l, asked)
		}
		holdAsked(t, p, l[0].To, asked)
		if round%3 > 0 {
			holdAck(t, p, l[0].To, asked, true)
		}
		// Those that are suspected say otherwise.
		for _, m := range x.List() {
			x.Hear(alive(m.Node, m.Incarnation+1))
		}
	}
	if asked != 858 {
		t.Errorf("%d questions", asked)
	}
}

// P16.2: what is told goes on just so with the shortest spans: each tick gives up a question, and asks the next one.
func TestShortest(t *testing.T) {
	p, x := made(t, 5, 1, 1), table(t, 5, alive(1, 0), alive(2, 0))
	holdTick(t, p, 0, 0, x, outs(ping(5, 1, 1)), nil)
	holdTick(t, p, 1, 1, x, outs(ping(5, 2, 2)), members(suspect(1, 0)))
	holdTick(t, p, 2, 0, x, outs(ping(5, 1, 3)), members(suspect(2, 0)))
	holdTick(t, p, 3, 0, x, outs(ping(5, 1, 4)), nil)
	holdTick(t, p, 4, 0, x, outs(ping(5, 2, 5)), members(dead(1, 0)))
	holdTick(t, p, 5, 0, x, nil, members(dead(2, 0)))
	holdNotAsked(t, p)
}
