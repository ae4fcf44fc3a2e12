package probe_test

import (
	"maps"
	"math"
	"math/rand"
	"slices"
	"testing"

	"watchfire/api"
	"watchfire/member"
	"watchfire/probe"
)

const (
	// most is the highest time, and the longest period and timeout.
	most = 1 << 40
	// highest is the highest incarnation.
	highest = 1 << 30
)

// alive makes a member that is there.
func alive(node uint16, incarnation int) api.Member {
	return api.Member{Node: node, State: api.Alive, Incarnation: incarnation}
}

// suspect makes a member that may be gone.
func suspect(node uint16, incarnation int) api.Member {
	return api.Member{Node: node, State: api.Suspect, Incarnation: incarnation}
}

// dead makes a member that is gone.
func dead(node uint16, incarnation int) api.Member {
	return api.Member{Node: node, State: api.Dead, Incarnation: incarnation}
}

// made makes a probe.
func made(t testing.TB, self uint16, period, timeout int) *probe.Probe {
	t.Helper()
	p, err := probe.New(self, period, timeout)
	if p == nil || err != api.OK {
		t.Fatalf("New(%d, %d, %d) = %v, %d", self, period, timeout, p, int(err))
	}
	return p
}

// table makes a table with these heard, one behind the other.
func table(t testing.TB, self uint16, l ...api.Member) *member.Table {
	t.Helper()
	x := member.New(self)
	for _, m := range l {
		if _, ok := x.Hear(m); !ok {
			t.Fatalf("Hear(%v) = false", m)
		}
	}
	return x
}

// ping tells a question as it goes out.
func ping(from, to uint16, seq int) probe.Out {
	return probe.Out{To: to, Packet: api.Packet{Kind: api.Ping, From: from, About: to, Seq: seq}}
}

// ask tells a call for help as it goes out.
func ask(from, to, about uint16, seq int) probe.Out {
	return probe.Out{To: to, Packet: api.Packet{Kind: api.Ask, From: from, About: about, Seq: seq}}
}

// outs makes a list of what goes out.
func outs(l ...probe.Out) []probe.Out { return l }

// members makes a list of members.
func members(l ...api.Member) []api.Member { return l }

// sameOuts tells whether the same goes out, in the same order.
func sameOuts(a, b []probe.Out) bool {
	return slices.EqualFunc(a, b, func(a, b probe.Out) bool {
		x, y := a.Packet, b.Packet
		return a.To == b.To && x.Kind == y.Kind && x.From == y.From && x.About == y.About && x.Seq == y.Seq &&
			slices.Equal(x.Members, y.Members) && len(x.Entries) == len(y.Entries)
	})
}

// holdTick holds what Tick answers.
func holdTick(t *testing.T, p *probe.Probe, now int, draw uint32, x *member.Table, wantOuts []probe.Out, wantNews []api.Member) {
	t.Helper()
	gotOuts, gotNews := p.Tick(now, draw, x)
	if !sameOuts(gotOuts, wantOuts) || !slices.Equal(gotNews, wantNews) {
		t.Errorf("Tick(%d, %d) = %v, %v, not %v, %v", now, draw, gotOuts, gotNews, wantOuts, wantNews)
	}
}

// holdQuiet holds that Tick answers nothing, and tells the table nothing.
func holdQuiet(t *testing.T, p *probe.Probe, now int, x *member.Table) {
	t.Helper()
	was := x.List()
	holdTick(t, p, now, 0, x, nil, nil)
	holdTable(t, x, was...)
}

// holdTable holds what a table has.
func holdTable(t *testing.T, x *member.Table, want ...api.Member) {
	t.Helper()
	if got := x.List(); !slices.Equal(got, want) {
		t.Errorf("List() = %v, not %v", got, want)
	}
}

// holdAsked holds that this question is open.
func holdAsked(t *testing.T, p *probe.Probe, node uint16, seq int) {
	t.Helper()
	if gotNode, gotSeq, is := p.Asked(); gotNode != node || gotSeq != seq || !is {
		t.Errorf("Asked() = %d, %d, %v, not %d, %d, true", gotNode, gotSeq, is, node, seq)
	}
}

// holdNotAsked holds that no question is open.
func holdNotAsked(t *testing.T, p *probe.Probe) {
	t.Helper()
	if node, seq, is := p.Asked(); node != 0 || seq != 0 || is {
		t.Errorf("Asked() = %d, %d, %v", node, seq, is)
	}
}

// holdAck holds what Ack answers.
func holdAck(t *testing.T, p *probe.Probe, about uint16, seq int, want bool) {
	t.Helper()
	if got := p.Ack(about, seq); got != want {
		t.Errorf("Ack(%d, %d) = %v", about, seq, got)
	}
}

// answer closes the open question, if there is one.
func answer(t *testing.T, p *probe.Probe) {
	t.Helper()
	if node, seq, is := p.Asked(); is {
		holdAck(t, p, node, seq, true)
	}
}

// holdWatched holds that a node is dead at the time, and not one tick ahead of it; probe and table stay as they are.
func holdWatched(t *testing.T, p *probe.Probe, x *member.Table, node uint16, at int) {
	t.Helper()
	if buried(p, x, node, at-1) || !buried(p, x, node, at) {
		t.Errorf("at %d, %d and %d: %v, %v, %v", at-1, at, most, buried(p, x, node, at-1), buried(p, x, node, at), buried(p, x, node, most))
	}
}

// holdNotWatched holds that a node is not dead at the last time; probe and table stay as they are.
func holdNotWatched(t *testing.T, p *probe.Probe, x *member.Table, node uint16) {
	t.Helper()
	if buried(p, x, node, most) {
		t.Errorf("%d is dead at the last time", node)
	}
}

// buried tells whether a Tick at the time would tell that a node is dead.
func buried(p *probe.Probe, x *member.Table, node uint16, at int) bool {
	_, news := p.Fork().Tick(at, 0, x.Fork())
	return slices.ContainsFunc(news, func(m api.Member) bool { return m.Node == node && m.State == api.Dead })
}

// since is with which Incarnation a node is watched, and from when on.
type since struct{ incarnation, from int }

// model is a probe as the chapter's words tell it.
type model struct {
	self            uint16
	period, timeout int
	open, helped    bool
	node            uint16
	seq, time       int
	questions, due  int
	watched         map[uint16]since
}

// newModel tells P16.1's words of a probe.
func newModel(self uint16, period, timeout int) *model {
	return &model{self: self, period: period, timeout: timeout, watched: map[uint16]since{}}
}

// fork tells a model of its own.
func (w *model) fork() *model {
	f := *w
	f.watched = maps.Clone(w.watched)
	return &f
}

// others tells the chapter's words of the others, without some.
func (w *model) others(x *member.Table, without ...uint16) []uint16 {
	var l []uint16
	for _, node := range x.There() {
		if node != w.self && !slices.Contains(without, node) {
			l = append(l, node)
		}
	}
	return l
}

// tick tells P16.2's words.
func (w *model) tick(now int, draw uint32, x *member.Table) (out []probe.Out, news []api.Member) {
	if now < 0 || now > most {
		return nil, nil
	}
	hears := func(m api.Member) {
		if told, is := x.Hear(m); is {
			news = append(news, told)
		}
	}
	for node := range uint16(64) {
		watched, is := w.watched[node]
		if !is {
			continue
		}
		m, has := x.Get(node)
		if !has || m != suspect(node, watched.incarnation) {
			delete(w.watched, node)
		} else if now >= watched.from+3*w.period {
			hears(dead(node, watched.incarnation))
			delete(w.watched, node)
		}
	}
	if w.open && now >= w.time+w.period {
		if m, has := x.Get(w.node); has {
			hears(suspect(w.node, m.Incarnation))
		}
		w.open = false
		if m, has := x.Get(w.node); has && m.State == api.Suspect {
			// What is watched here is watched with t's Incarnation: so it stays watched from then on.
			if _, is := w.watched[w.node]; !is {
				w.watched[w.node] = since{m.Incarnation, now}
			}
		}
	} else if w.open && now >= w.time+w.timeout && !w.helped {
		w.helped = true
		if l := w.others(x, w.node); len(l) > 0 {
			out = append(out, ask(w.self, l[int(draw)%len(l)], w.node, w.seq))
		}
	}
	if l := w.others(x); !w.open && now >= w.due && len(l) > 0 {
		w.questions++
		w.open, w.helped, w.node, w.seq, w.time = true, false, l[int(draw)%len(l)], w.questions, now
		w.due = now + w.period
		out = append(out, ping(w.self, w.node, w.seq))
	}
	return out, news
}

// ack tells P16.3's words of Ack.
func (w *model) ack(about uint16, seq int) bool {
	is := w.open && w.node == about && w.seq == seq
	w.open = w.open && !is
	return is
}

// watch tells P16.3's words of Watch.
func (w *model) watch(m api.Member, now int) {
	if m.State != api.Suspect || m.Node > 63 || m.Node == w.self || now < 0 || now > most {
		return
	}
	if watched, is := w.watched[m.Node]; !is || watched.incarnation < m.Incarnation {
		w.watched[m.Node] = since{m.Incarnation, now}
	}
}

// pair is a probe, its table, and the chapter's words of the one with a table of their own.
type pair struct {
	p             *probe.Probe
	words         *model
	x, wordsTable *member.Table
	now           int
}

// newPair makes a pair.
func newPair(t testing.TB, self, tableSelf uint16, period, timeout int) *pair {
	return &pair{made(t, self, period, timeout), newModel(self, period, timeout), member.New(tableSelf), member.New(tableSelf), 0}
}

// fork tells a pair of its own.
func (a *pair) fork() *pair {
	return &pair{a.p.Fork(), a.words.fork(), a.x.Fork(), a.wordsTable.Fork(), a.now}
}

// tick holds a Tick against the words.
func (a *pair) tick(t *testing.T, now int, draw uint32) {
	t.Helper()
	wantOuts, wantNews := a.words.tick(now, draw, a.wordsTable)
	holdTick(t, a.p, now, draw, a.x, wantOuts, wantNews)
}

// hold holds what may be seen of a probe, now and at later times, against the words.
func (a *pair) hold(t *testing.T) {
	t.Helper()
	holdTable(t, a.x, a.wordsTable.List()...)
	if a.words.open {
		holdAsked(t, a.p, a.words.node, a.words.seq)
	} else {
		holdNotAsked(t, a.p)
	}
	for _, later := range []int{1, a.words.period, 2*a.words.period + 1, 3*a.words.period - 1, 3 * a.words.period} {
		if now := a.now + later; now <= most {
			a.fork().tick(t, now, uint32(now))
		}
	}
}

// someMember tells a member by two numbers: of a few nodes, each State, low incarnations, and some that may not be.
func someMember(x, y byte) api.Member {
	node := []uint16{0, 1, 2, 3, 4, 5, 62, 63}[x%8]
	if x >= 250 {
		node = []uint16{64, 65, 66, 127, 128, 65535}[x-250]
	}
	state := []api.State{api.Alive, api.Suspect, api.Suspect, api.Dead}[x/8%4]
	if x/8 == 30 {
		state = api.State(y)
	}
	incarnation := int(y) % 4
	if y >= 240 {
		incarnation = []int{highest - 1, highest, highest + 1, -1, math.MinInt, math.MaxInt}[y%6]
	}
	return api.Member{Node: node, State: state, Incarnation: incarnation}
}

// someTime tells a time by a number: mostly now or soon, at times behind, or at an edge.
func someTime(now int, x byte) int {
	switch {
	case x < 200:
		return now + int(x%8)
	case x < 230:
		return now + int(x-200)*3
	case x < 245:
		return now - int(x-229)
	}
	return []int{-1, 0, 1, most - 1, most, most + 1, math.MinInt, math.MaxInt}[x%8]
}

// step does what three bytes say with a pair.
func (a *pair) step(t *testing.T, steps []byte) {
	t.Helper()
	switch kind := steps[0] % 16; kind {
	case 0, 1, 2, 3, 4, 5, 6, 7:
		now := someTime(a.now, steps[1])
		a.tick(t, now, uint32(steps[2])*0x01010101)
		// A tick at an edge leaves the row where it is.
		if now > a.now && now < a.now+100 && now <= most {
			a.now = now
		}
	case 8, 9:
		holdAck(t, a.p, a.words.node, a.words.seq, a.words.ack(a.words.node, a.words.seq))
	case 10:
		about, seq := uint16(steps[1]%8), a.words.questions-int(steps[2]%3)
		holdAck(t, a.p, about, seq, a.words.ack(about, seq))
	case 11, 12:
		m, now := someMember(steps[1], steps[2]), someTime(a.now, steps[1]^steps[2])
		a.p.Watch(m, now)
		a.words.watch(m, now)
	default:
		m := someMember(steps[1], steps[2])
		a.x.Hear(m)
		a.wordsTable.Hear(m)
	}
}

// play does what bytes say with two probes and with the chapter's words of them, and holds the ones against the others.
func play(t *testing.T, steps []byte) {
	if len(steps) < 4 {
		return
	}
	selves, spans := []uint16{0, 1, 3, 62, 63}, []int{1, 2, 3, 5, 8, 10, 20, most}
	self := selves[int(steps[0])%len(selves)]
	tableSelf := self
	if steps[1] >= 200 {
		tableSelf = selves[int(steps[1])%len(selves)]
	}
	one := newPair(t, self, tableSelf, spans[steps[2]%8], spans[steps[3]%8])
	two := newPair(t, tableSelf, self, spans[steps[3]%8], spans[steps[2]%8])
	for steps = steps[4:]; len(steps) >= 3; steps = steps[3:] {
		switch {
		case steps[0] == 255:
			two = one.fork()
		case steps[0] >= 250:
			one, two = two, one
		case steps[0] >= 246:
			// A probe may be handed another table, which knows others.
			one.x, two.x, one.wordsTable, two.wordsTable = two.x, one.x, two.wordsTable, one.wordsTable
		default:
			one.step(t, steps)
		}
		one.hold(t)
		two.hold(t)
		if t.Failed() {
			t.FailNow()
		}
	}
}

// P16.1 to P16.4: long rows of steps, against the chapter's words.
func TestPlay(t *testing.T) {
	source := rand.New(rand.NewSource(16))
	for row := range 240 {
		steps := make([]byte, 4+3*300)
		source.Read(steps)
		steps[2], steps[3] = byte(row), byte(row/8)
		play(t, steps)
	}
}

// FuzzProbe holds any row of steps against the chapter's words.
func FuzzProbe(f *testing.F) {
	f.Add([]byte{0, 0, 4, 1, 13, 1, 0, 0, 0, 0, 0, 2, 0, 0, 5, 0, 0, 7, 0, 0, 7, 0, 0, 7, 0})
	f.Add([]byte{1, 201, 5, 2, 13, 2, 0, 13, 3, 0, 0, 0, 7, 8, 0, 0, 11, 10, 1, 0, 229, 3, 255, 0, 0, 0, 247, 0})
	f.Fuzz(func(t *testing.T, steps []byte) { play(t, steps[:min(len(steps), 1000)]) })
}
