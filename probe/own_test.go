package probe_test

import (
	"math"
	"slices"
	"testing"

	"watchfire/api"
	"watchfire/member"
	"watchfire/probe"
)

// P16.3: an answer about the node that was asked, with the question's Seq, closes the question, once.
func TestAck(t *testing.T) {
	for _, node := range []uint16{0, 1, 4, 6, 63} {
		p := asking(t, 10, 3, node, 0)
		holdAsked(t, p, node, 1)
		holdAck(t, p, node, 1, true)
		holdNotAsked(t, p)
		holdAck(t, p, node, 1, false)
		holdNotAsked(t, p)
	}
}

// P16.3: answers about another node, or with another Seq, close nothing.
func TestAckRefuses(t *testing.T) {
	p, x := made(t, 5, 10, 3), table(t, 5, alive(2, 0))
	for seq := 1; seq < 8; seq++ {
		holdTick(t, p, 10*seq, 0, x, outs(ping(5, 2, seq)), nil)
		for _, about := range []uint16{0, 1, 3, 5, 63, 64, 66, 130, 65535} {
			for _, other := range []int{seq, seq - 1, seq + 1, 0, -seq} {
				holdAck(t, p, about, other, false)
			}
		}
		for _, other := range []int{seq - 1, seq + 1, 0, -1, -seq, 100, seq + 1<<16, seq + 1<<32, math.MinInt, math.MaxInt} {
			holdAck(t, p, 2, other, false)
		}
		holdAsked(t, p, 2, seq)
		holdAck(t, p, 2, seq, true)
	}
}

// P16.3: with no question open nothing is an answer: ahead of the first one, behind an answer, and behind one that was given up.
func TestAckOfNone(t *testing.T) {
	holdNone := func(p *probe.Probe) {
		t.Helper()
		for _, about := range []uint16{0, 1, 2, 5, 63, 64, 65535} {
			for _, seq := range []int{-1, 0, 1, 2, 3, math.MinInt, math.MaxInt} {
				holdAck(t, p, about, seq, false)
			}
		}
		holdNotAsked(t, p)
	}
	var none *probe.Probe
	holdNone(none)
	p, x := made(t, 5, 10, 3), table(t, 5, alive(2, 0))
	holdNone(p)
	holdTick(t, p, 0, 0, x, outs(ping(5, 2, 1)), nil)
	holdAck(t, p, 2, 1, true)
	holdNone(p)
	holdTick(t, p, 10, 0, x, outs(ping(5, 2, 2)), nil)
	x.Hear(dead(2, 0))
	holdQuiet(t, p, 20, x)
	holdNone(p)
	// What was asked of none is no question either.
	holdQuiet(t, p, 30, x)
	holdNone(p)
}

// P16.3: a question that was given up is answered no more; the next one is, by its own Seq.
func TestAckTooLate(t *testing.T) {
	p, x := asking(t, 10, 3, 2, 0), table(t, 5, alive(2, 0))
	holdTick(t, p, 10, 0, x, outs(ping(5, 2, 2)), members(suspect(2, 0)))
	holdAck(t, p, 2, 1, false)
	holdAsked(t, p, 2, 2)
	holdAck(t, p, 2, 2, true)
}

// P16.3: one who answered is not suspected by that question, nor is anybody asked for help.
func TestAckInTime(t *testing.T) {
	x := table(t, 5, alive(1, 0), alive(2, 0))
	p := asking(t, 10, 3, 2, 0)
	holdAck(t, p, 2, 1, true)
	for now := range 10 {
		holdQuiet(t, p, now, x)
	}
	holdTick(t, p, 10, 0, x, outs(ping(5, 1, 2)), nil)

	// Behind the call for help, too.
	p = asking(t, 10, 3, 2, 0)
	holdTick(t, p, 3, 0, x, outs(ask(5, 1, 2, 1)), nil)
	holdQuiet(t, p, 9, x)
	holdAck(t, p, 2, 1, true)
	holdTick(t, p, 10, 0, x, outs(ping(5, 1, 2)), nil)
	holdTable(t, x, alive(1, 0), alive(2, 0), alive(5, 0))
}

// P16.3: an answer is no word that one is alive: who is watched stays so.
func TestAckOfWatched(t *testing.T) {
	p, x := asking(t, 10, 3, 2, 0), table(t, 5, suspect(2, 0))
	p.Watch(suspect(2, 0), 1)
	holdAck(t, p, 2, 1, true)
	holdTick(t, p, 31, 0, x, nil, members(dead(2, 0)))
}

// P16.3: of nil nothing, 0 and false.
func TestNil(t *testing.T) {
	var p *probe.Probe
	for range 2 {
		holdNotAsked(t, p)
		holdAck(t, p, 0, 0, false)
		if f := p.Fork(); f != nil {
			t.Errorf("Fork() = %v", f)
		}
		p.Watch(suspect(1, 0), 0)
		holdQuiet(t, p, 0, table(t, 5, alive(1, 0)))
		holdTick(t, p, 0, 0, nil, nil, nil)
	}
}

// P16.3: looks change nothing.
func TestLooks(t *testing.T) {
	p, x := steady(t)
	for range 5 {
		holdAsked(t, p, 1, 1)
		p.Fork().Ack(1, 1)
		p.Fork().Tick(30, 0, x.Fork())
	}
	holdTick(t, p, 30, 0, x, outs(ping(5, 1, 2)), members(dead(2, 1), dead(6, 0), suspect(1, 4)))
}

// spoil changes what a list has, and what stands in the room behind it.
func spoil[T any](l []T, spoilt T) {
	room := l[:cap(l)]
	for i := range room {
		room[i] = spoilt
	}
}

// spoiltOut and spoiltMember are told by no Tick.
var (
	spoiltMember = api.Member{Node: 65535, State: 255, Incarnation: -1}
	spoiltOut    = probe.Out{To: 65535, Packet: api.Packet{Kind: 255, Members: []api.Member{spoiltMember}, Entries: []api.Entry{{}}}}
)

// P16.2, Rule 3: what Tick tells is the asker's own.
func TestAnswersAreNew(t *testing.T) {
	p, x := steady(t)
	for _, now := range []int{14, 30, 33, 40, 60, 70, 100} {
		f, y := p.Fork(), x.Fork()
		gotOuts, gotNews := p.Tick(now, 0, x)
		wantOuts, wantNews := f.Tick(now, 0, y)
		for _, out := range gotOuts {
			spoil(out.Packet.Members, spoiltMember)
			spoil(out.Packet.Entries, api.Entry{Key: "spoilt"})
		}
		spoil(gotOuts, spoiltOut)
		spoil(gotNews, spoiltMember)
		for _, out := range wantOuts {
			if out.To > 63 || len(out.Packet.Members) > 0 || len(out.Packet.Entries) > 0 {
				t.Errorf("another answer of Tick changed: %v", wantOuts)
			}
		}
		if slices.Contains(wantNews, spoiltMember) {
			t.Errorf("another answer of Tick changed: %v", wantNews)
		}
		holdTable(t, x, y.List()...)
		node, seq, is := f.Asked()
		if gotNode, gotSeq, gotIs := p.Asked(); gotNode != node || gotSeq != seq || gotIs != is {
			t.Errorf("Asked() = %d, %d, %v, not %d, %d, %v", gotNode, gotSeq, gotIs, node, seq, is)
		}
	}
}

// P16.2, Rule 3: what was told ahead stays as it was, whatever the probe does behind it.
func TestAnswersStay(t *testing.T) {
	p, x := steady(t)
	gotOuts, gotNews := p.Tick(30, 0, x)
	wantOuts, wantNews := outs(ping(5, 1, 2)), members(dead(2, 1), dead(6, 0), suspect(1, 4))
	for now := 31; now < 200; now++ {
		p.Tick(now, uint32(now), x)
		p.Watch(suspect(uint16(now%64), now), now)
		x.Hear(suspect(uint16(now%64), now))
		if !sameOuts(gotOuts, wantOuts) || !slices.Equal(gotNews, wantNews) {
			t.Fatalf("at %d: %v, %v", now, gotOuts, gotNews)
		}
	}
}

// P16.3: a fork is as the probe, and neither changes the other behind it.
func TestFork(t *testing.T) {
	// What is done with a probe that asked 1 at 11, and watches 2 and 6 from 0 on; and what a Tick at 30 tells then.
	for _, change := range []struct {
		says string
		do   func(p *probe.Probe)
		outs []probe.Out
		news []api.Member
	}{
		{"nothing", func(p *probe.Probe) {}, outs(ping(5, 1, 2)), members(dead(2, 1), dead(6, 0), suspect(1, 4))},
		{"an answer", func(p *probe.Probe) { p.Ack(1, 1) }, outs(ping(5, 1, 2)), members(dead(2, 1), dead(6, 0))},
		{"no answer", func(p *probe.Probe) { p.Ack(1, 2) }, outs(ping(5, 1, 2)), members(dead(2, 1), dead(6, 0), suspect(1, 4))},
		{"one is watched with a higher incarnation", func(p *probe.Probe) { p.Watch(suspect(2, 2), 1) }, outs(ping(5, 1, 2)), members(dead(6, 0), suspect(1, 4))},
		{"one is watched no more", func(p *probe.Probe) { p.Tick(12, 0, table(t, 5, alive(1, 4), suspect(2, 1))) }, outs(ping(5, 1, 2)), members(dead(2, 1), suspect(1, 4))},
		{"nobody is watched any more", func(p *probe.Probe) { p.Tick(12, 0, member.New(5)) }, outs(ping(5, 1, 2)), members(suspect(1, 4))},
		{"another question", func(p *probe.Probe) {
			p.Ack(1, 1)
			p.Tick(21, 1, table(t, 5, suspect(2, 1), alive(4, 0), suspect(6, 0)))
		}, outs(ask(5, 1, 4, 2)), members(dead(2, 1), dead(6, 0))},
		{"looks", func(p *probe.Probe) { p.Asked(); p.Fork() }, outs(ping(5, 1, 2)), members(dead(2, 1), dead(6, 0), suspect(1, 4))},
	} {
		t.Run(change.says, func(t *testing.T) {
			holdChange := func(p *probe.Probe) {
				t.Helper()
				_, x := steady(t)
				holdTick(t, p, 30, 0, x, change.outs, change.news)
			}
			holdSame := func(p *probe.Probe) {
				t.Helper()
				_, x := steady(t)
				holdAsked(t, p, 1, 1)
				holdTick(t, p, 30, 0, x, outs(ping(5, 1, 2)), members(dead(2, 1), dead(6, 0), suspect(1, 4)))
			}
			p, _ := steady(t)
			f := p.Fork()
			if f == nil || f == p {
				t.Fatal("no probe of its own")
			}
			change.do(p)
			holdSame(f)
			holdChange(p)

			p, _ = steady(t)
			f = p.Fork()
			change.do(f)
			holdSame(p)
			holdChange(f)

			// Both go the same way on, if they are told the same.
			p, _ = steady(t)
			f = p.Fork()
			change.do(p)
			change.do(f)
			holdChange(p)
			holdChange(f)
		})
	}
}

// P16.3: a fork has help that was asked for, Seqs, and what is due as the probe had them; so have forks of new ones, and of forks.
func TestForkOfForks(t *testing.T) {
	x := table(t, 63, alive(1, 0), alive(2, 0))
	p := made(t, 63, 10, 3)
	one := p.Fork()
	holdNotAsked(t, one)
	holdTick(t, one, 0, 0, x, outs(ping(63, 1, 1)), nil)
	holdNotAsked(t, p)
	two := one.Fork()
	holdTick(t, one, 3, 0, x, outs(ask(63, 2, 1, 1)), nil)
	three := one.Fork()
	holdQuiet(t, three, 4, x)
	holdTick(t, two, 4, 0, x, outs(ask(63, 2, 1, 1)), nil)
	holdAck(t, three, 1, 1, true)
	holdAsked(t, one, 1, 1)
	holdAsked(t, two, 1, 1)
	holdNotAsked(t, three)
	four := three.Fork()
	holdNotAsked(t, four)
	holdQuiet(t, four, 9, x)
	holdTick(t, four, 10, 1, x, outs(ping(63, 2, 2)), nil)
	holdTick(t, three, 11, 0, x, outs(ping(63, 1, 2)), nil)
	holdTick(t, p, 11, 1, x, outs(ping(63, 2, 1)), nil)
}
