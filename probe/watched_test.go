package probe_test

import (
	"math"
	"slices"
	"testing"

	"watchfire/api"
	"watchfire/member"
	"watchfire/probe"
)

// watching makes a probe of node 5 that was told to watch a member from a time on, and has asked nobody.
func watching(t *testing.T, period int, m api.Member, from int) *probe.Probe {
	t.Helper()
	p := made(t, 5, period, 1)
	p.Watch(m, from)
	return p
}

// P16.2: one that is watched is dead three periods later, and not one tick ahead of it; then it is watched no more.
func TestWatchedIsDead(t *testing.T) {
	for _, period := range []int{1, 2, 10, 1000, 1 << 38} {
		for _, from := range []int{0, 1, 7, 1000} {
			for _, node := range []uint16{0, 1, 4, 6, 62, 63} {
				for _, incarnation := range []int{0, 1, highest} {
					p, x := watching(t, period, suspect(node, incarnation), from), table(t, 5, suspect(node, incarnation))
					holdWatched(t, p, x, node, from+3*period)
					early := p.Fork()
					for _, now := range []int{from, from + period, from + 3*period - 1} {
						if _, news := early.Tick(now, 0, x); slices.Contains(news, dead(node, incarnation)) {
							t.Errorf("watched from %d, the period %d: %v at %d", from, period, news, now)
						}
					}
					holdTick(t, p, from+3*period, 0, x, nil, members(dead(node, incarnation)))
					if m, _ := x.Get(node); m != dead(node, incarnation) {
						t.Errorf("%v in the table", m)
					}
					holdQuiet(t, p, from+3*period, x)
				}
			}
		}
	}
}

// P16.2: long behind the three periods it is dead, too; at a time ahead of that from which it is watched nothing happens, and it stays watched.
func TestWatchedAtOtherTimes(t *testing.T) {
	for _, now := range []int{87, 88, 1000, most - 1, most} {
		p, x := watching(t, 10, suspect(1, 0), 57), table(t, 5, suspect(1, 0))
		holdTick(t, p, now, 0, x, nil, members(dead(1, 0)))
	}
	p, x := watching(t, 10, suspect(1, 0), 57), table(t, 5, suspect(1, 0))
	for _, now := range []int{56, 0, 30, 57, 86} {
		if _, news := p.Fork().Tick(now, 0, x); len(news) > 0 {
			t.Errorf("at %d: %v", now, news)
		}
	}
	p.Tick(0, 0, x)
	holdAck(t, p, 1, 1, true)
	holdWatched(t, p, x, 1, 87)
}

// P16.2: one that is dead is watched no more; suspected anew, it is not watched by that alone.
func TestDeadIsWatchedNoMore(t *testing.T) {
	p, x := watching(t, 10, suspect(1, 0), 0), table(t, 5, suspect(1, 0))
	holdTick(t, p, 30, 0, x, nil, members(dead(1, 0)))
	// Another table does not know it yet.
	holdNotWatched(t, p, table(t, 5, suspect(1, 0)), 1)
	x.Hear(suspect(1, 1))
	holdNotWatched(t, p, x, 1)
	p.Watch(suspect(1, 1), 35)
	holdWatched(t, p, x, 1, 65)
	// Of the same incarnation one may be watched again, too.
	p = watching(t, 10, suspect(1, 0), 0)
	p.Tick(30, 0, table(t, 5, suspect(1, 0)))
	p.Watch(suspect(1, 0), 31)
	holdWatched(t, p, table(t, 5, suspect(1, 0)), 1, 61)
}

// P16.2: who is not suspected with the incarnation that is watched is watched no more, also if this is so later.
func TestWatchedNoMore(t *testing.T) {
	for says, x := range map[string]*member.Table{
		"not there":                     table(t, 5),
		"alive with this incarnation":   table(t, 5, alive(1, 3)),
		"dead with this incarnation":    table(t, 5, dead(1, 3)),
		"alive with the next one":       table(t, 5, alive(1, 4)),
		"suspect with the next one":     table(t, 5, suspect(1, 4)),
		"dead with the next one":        table(t, 5, dead(1, 4)),
		"suspect with a much higher":    table(t, 5, suspect(1, highest)),
		"alive with the one below":      table(t, 5, alive(1, 2)),
		"suspect with the one below":    table(t, 5, suspect(1, 2)),
		"dead with the one below":       table(t, 5, dead(1, 2)),
		"suspect with none":             table(t, 5, suspect(1, 0)),
		"another one suspect with this": table(t, 5, suspect(2, 3)),
	} {
		for _, now := range []int{0, 1, 29, 30, 31, 1000} {
			p, right := watching(t, 10, suspect(1, 3), 0), table(t, 5, suspect(1, 3))
			holdWatched(t, p, right, 1, 30)
			was := x.List()
			if _, news := p.Tick(now, 0, x); len(news) > 0 {
				t.Errorf("%s, at %d: %v", says, now, news)
			}
			holdTable(t, x, was...)
			answer(t, p)
			holdNotWatched(t, p, right, 1)
		}
	}
}

// P16.2: several at once are told by rising nodes, in whatever order they came; each goes by its own time and incarnation.
func TestWatchedSeveral(t *testing.T) {
	all := members(suspect(0, 2), suspect(1, 0), suspect(4, 9), suspect(6, highest), suspect(31, 1), suspect(32, 0), suspect(63, 7))
	for turn := range 2 * len(all) {
		order := slices.Clone(all)
		if turn >= len(all) {
			slices.Reverse(order)
		}
		p, x := made(t, 5, 10, 1), table(t, 5, all...)
		for i := range order {
			p.Watch(order[(i+turn)%len(order)], 7)
		}
		var want []api.Member
		for _, m := range all {
			want = append(want, dead(m.Node, m.Incarnation))
		}
		holdWatched(t, p, x, 0, 37)
		holdTick(t, p, 37, 0, x, nil, want)
		holdTable(t, x, dead(0, 2), dead(1, 0), dead(4, 9), alive(5, 0), dead(6, highest), dead(31, 1), dead(32, 0), dead(63, 7))
		holdQuiet(t, p, most, x)
	}
}

// P16.2: of several some are dead, some not yet, some are watched no more.
func TestWatchedSome(t *testing.T) {
	p, x := made(t, 5, 10, 1), table(t, 5, suspect(1, 0), suspect(2, 0), alive(3, 1), suspect(4, 6), suspect(7, 2), suspect(8, 0))
	for _, watched := range []struct {
		m    api.Member
		from int
	}{
		{suspect(8, 0), 7}, {suspect(7, 2), 8}, {suspect(4, 5), 0}, {suspect(3, 0), 0}, {suspect(2, 0), 6}, {suspect(9, 0), 0},
	} {
		p.Watch(watched.m, watched.from)
	}
	holdTick(t, p, 37, 0, x, outs(ping(5, 1, 1)), members(dead(2, 0), dead(8, 0)))
	holdTable(t, x, suspect(1, 0), dead(2, 0), alive(3, 1), suspect(4, 6), alive(5, 0), suspect(7, 2), dead(8, 0))
	holdAck(t, p, 1, 1, true)
	// 7 is watched still; 3, 4 and 9 are not.
	x = table(t, 5, suspect(2, 0), suspect(3, 0), suspect(4, 5), suspect(7, 2), suspect(8, 0), suspect(9, 0))
	for _, node := range []uint16{2, 3, 4, 8, 9} {
		holdNotWatched(t, p, x, node)
	}
	holdWatched(t, p, x, 7, 38)
}

// P16.2: who is dead is so ahead of what is asked: it is neither asked nor asked for help, nor suspected again.
func TestWatchedComesFirst(t *testing.T) {
	p, x := watching(t, 10, suspect(1, 0), 0), table(t, 5, suspect(1, 0), alive(2, 0))
	holdTick(t, p, 30, 0, x, outs(ping(5, 2, 1)), members(dead(1, 0)))

	p, x = watching(t, 10, suspect(1, 0), 0), table(t, 5, suspect(1, 0), alive(2, 0), alive(3, 0))
	holdTick(t, p, 29, 1, x, outs(ping(5, 2, 1)), nil)
	holdTick(t, p, 30, 0, x, outs(ask(5, 3, 2, 1)), members(dead(1, 0)))

	// The one that was asked is dead by its being watched.
	p, x = watching(t, 10, suspect(1, 0), 0), table(t, 5, suspect(1, 0))
	holdTick(t, p, 20, 0, x, outs(ping(5, 1, 1)), nil)
	holdTick(t, p, 30, 0, x, nil, members(dead(1, 0)))
	holdNotAsked(t, p)

	// First those that are dead are told, then the one that is suspected, be its node lower.
	p, x = watching(t, 10, suspect(9, 3), 0), table(t, 5, alive(1, 0), suspect(9, 3))
	holdTick(t, p, 20, 0, x, outs(ping(5, 1, 1)), nil)
	holdTick(t, p, 30, 0, x, outs(ping(5, 1, 2)), members(dead(9, 3), suspect(1, 0)))
	holdWatched(t, p, x, 1, 60)
}

// P16.2: the table's own node, where that is not the probe's, says otherwise as others are dead; at the highest incarnation it can't.
func TestWatchedSelfOfTable(t *testing.T) {
	p, x := watching(t, 10, suspect(1, 0), 0), table(t, 1, alive(2, 0))
	holdTick(t, p, 30, 0, x, outs(ping(5, 1, 1)), nil)
	holdTable(t, x, alive(1, 0), alive(2, 0))

	p, x = watching(t, 10, suspect(1, highest), 0), table(t, 1, suspect(1, highest), alive(2, 0))
	holdTick(t, p, 30, 0, x, outs(ping(5, 2, 1)), members(dead(1, highest)))
	holdTable(t, x, dead(1, highest), alive(2, 0))
}

// P16.3: a member that is not suspected, or may not be, is not watched.
func TestWatchRefuses(t *testing.T) {
	for _, state := range []api.State{api.Alive, api.Dead, 3, 4, 255} {
		p := watching(t, 1, api.Member{Node: 1, State: state}, 0)
		holdNotWatched(t, p, table(t, 5, suspect(1, 0)), 1)
		// Nor is one watched otherwise by that.
		p.Watch(suspect(1, 0), 2)
		p.Watch(api.Member{Node: 1, State: state, Incarnation: 7}, 3)
		p.Watch(api.Member{Node: 1, State: state}, 4)
		holdWatched(t, p, table(t, 5, suspect(1, 0)), 1, 5)
	}
	for _, node := range []uint16{64, 65, 66, 128, 129, 32769, 65473, 65535} {
		p, x := watching(t, 1, suspect(node, 0), 0), member.New(5)
		for each := range uint16(64) {
			x.Hear(suspect(each, 0))
		}
		for each := range uint16(64) {
			holdNotWatched(t, p, x, each)
		}
	}
}

// P16.3: self is not watched, each other node is.
func TestWatchSelf(t *testing.T) {
	for self := range uint16(64) {
		for _, node := range []uint16{self, (self + 1) % 64, (self + 63) % 64, 0, 63} {
			p, x := made(t, self, 1, 1), table(t, self, suspect(node, highest))
			p.Watch(suspect(node, highest), 0)
			if node == self {
				holdNotWatched(t, p, x, node)
			} else {
				holdWatched(t, p, x, node, 3)
			}
			// Another table has it among its others.
			x = table(t, (self+2)%64, suspect(node, highest))
			if node == self {
				holdNotWatched(t, p, x, node)
			} else {
				holdWatched(t, p, x, node, 3)
			}
		}
	}
}

// P16.3: times that may not be are none from which one is watched; 0 and 2^40 are.
func TestWatchTimes(t *testing.T) {
	x := table(t, 5, suspect(1, 0))
	for _, now := range []int{-1, -2, -100, math.MinInt, 1<<40 + 1, 1 << 41, math.MaxInt} {
		p := watching(t, 1, suspect(1, 0), now)
		holdNotWatched(t, p, x, 1)
		p.Watch(suspect(1, 0), 4)
		p.Watch(suspect(1, 7), now)
		holdWatched(t, p, x, 1, 7)
	}
	for _, now := range []int{0, 1, most - 4, most - 3} {
		holdWatched(t, watching(t, 1, suspect(1, 0), now), x, 1, now+3)
	}
	for _, now := range []int{most - 2, most - 1, 1 << 40} {
		p := watching(t, 1, suspect(1, 0), now)
		holdNotWatched(t, p, x, 1)
		// It is watched all the same: so it is not from another time on.
		p.Watch(suspect(1, 0), 0)
		holdNotWatched(t, p, x, 1)
		p.Watch(suspect(1, 1), 0)
		holdWatched(t, p, table(t, 5, suspect(1, 1)), 1, 3)
	}
}

// P16.3: a lower and the same incarnation change nothing, be the time later or ahead; a higher one takes the other's place.
func TestWatchAgain(t *testing.T) {
	incarnations := []int{math.MinInt, -1, 0, 1, 2, 7, highest - 1, highest, highest + 1, math.MaxInt}
	for _, first := range incarnations {
		for _, second := range incarnations {
			for _, now := range []int{0, 6, 7, 8, 1000} {
				p := watching(t, 10, suspect(1, first), 7)
				p.Watch(suspect(1, second), now)
				x := member.New(5)
				if _, is := x.Hear(suspect(1, first)); is && second <= first {
					holdWatched(t, p, x, 1, 37)
				} else if is {
					holdNotWatched(t, p, x, 1)
				}
				x = member.New(5)
				if _, is := x.Hear(suspect(1, second)); is && second > first {
					holdWatched(t, p, x, 1, now+30)
				} else if is && second < first {
					holdNotWatched(t, p, x, 1)
				}
			}
		}
	}
}

// P16.3: watching one says nothing of another one.
func TestWatchOfOthers(t *testing.T) {
	p, x := made(t, 5, 10, 1), table(t, 5, suspect(0, 0), suspect(1, 1), suspect(4, 2), suspect(6, 3), suspect(63, 4))
	for i, m := range x.List() {
		p.Watch(m, 3*i)
	}
	for node, at := range map[uint16]int{0: 30, 1: 33, 4: 36, 6: 42, 63: 45} {
		holdWatched(t, p, x, node, at)
	}
	// Nor does a question that is open, or its answer.
	holdTick(t, p, 0, 1, x, outs(ping(5, 1, 1)), nil)
	p.Watch(suspect(1, 1), 0)
	holdAsked(t, p, 1, 1)
	holdAck(t, p, 1, 1, true)
	holdWatched(t, p, x, 1, 33)
	holdNotAsked(t, p)
}

// P16.3: nil watches nobody.
func TestWatchOfNil(t *testing.T) {
	var p *probe.Probe
	for _, m := range members(suspect(1, 0), suspect(64, 0), alive(0, 0), api.Member{}) {
		for _, now := range []int{-1, 0, most, most + 1} {
			p.Watch(m, now)
		}
	}
	holdQuiet(t, p, most, table(t, 5, suspect(1, 0)))
}
