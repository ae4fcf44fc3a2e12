package packet_test

import (
	"math"
	"math/rand"
	"slices"
	"testing"

	"watchfire/api"
	"watchfire/packet"
)

// told is OK where a packet may be, and ErrPacket where it may not.
func told(mayBe bool) api.Errno {
	if mayBe {
		return api.OK
	}
	return api.ErrPacket
}

// P13.1: the packets of which the chapter speaks may be.
func TestCheckOfRight(t *testing.T) {
	for _, p := range some() {
		holdCheck(t, p, api.OK)
	}
}

// P13.1: each Kind up to Pull, and all above.
func TestCheckKind(t *testing.T) {
	for kind := range 256 {
		holdCheck(t, changed(func(p *api.Packet) { p.Kind = uint8(kind) }), told(kind <= 4))
		holdCheck(t, api.Packet{Kind: uint8(kind)}, told(kind <= 4))
	}
	for kind, want := range map[uint8]api.Errno{api.Ping: api.OK, api.Ack: api.OK, api.Ask: api.OK, api.Push: api.OK, api.Pull: api.OK, api.Pull + 1: api.ErrPacket} {
		holdCheck(t, api.Packet{Kind: kind}, want)
	}
}

// P13.1: From, About and a Member's Node, each below 64, and above.
func TestCheckNodes(t *testing.T) {
	for _, node := range []uint16{0, 1, 62, 63, 64, 65, 127, 128, 255, 256, 257, 319, 320, 32767, 32768, 65535} {
		want := told(node < 64)
		holdCheck(t, changed(func(p *api.Packet) { p.From = node }), want)
		holdCheck(t, changed(func(p *api.Packet) { p.About = node }), want)
		holdCheck(t, changed(func(p *api.Packet) { p.Members[0].Node = node }), want)
		holdCheck(t, changed(func(p *api.Packet) { p.Members[1].Node = node }), want)
	}
	for node := range 1 << 16 {
		for _, p := range []api.Packet{{From: uint16(node)}, {About: uint16(node)}, {Members: []api.Member{{Node: uint16(node)}}}} {
			if got := packet.Check(p); got != told(node < 64) {
				t.Errorf("Check(%s) = %d", show(p), int(got))
			}
		}
	}
}

// P13.1: Seq at its edges.
func TestCheckSeq(t *testing.T) {
	for seq, want := range map[int]api.Errno{-1: api.ErrPacket, 0: api.OK, 1: api.OK, 1 << 32: api.OK, most - 1: api.OK, most: api.OK, most + 1: api.ErrPacket, math.MinInt: api.ErrPacket, math.MaxInt: api.ErrPacket} {
		holdCheck(t, api.Packet{Seq: seq}, want)
	}
	for _, seq := range edges {
		holdCheck(t, changed(func(p *api.Packet) { p.Seq = seq }), told(seq >= 0 && seq <= most))
	}
}

// P13.1: a Member's State at Dead, and above.
func TestCheckState(t *testing.T) {
	for state := range 256 {
		want := told(state <= 2)
		holdCheck(t, withMembers(api.Member{State: api.State(state)}), want)
		holdCheck(t, changed(func(p *api.Packet) { p.Members[1].State = api.State(state) }), want)
	}
	for state, want := range map[api.State]api.Errno{api.Alive: api.OK, api.Suspect: api.OK, api.Dead: api.OK, api.Dead + 1: api.ErrPacket} {
		holdCheck(t, withMembers(api.Member{State: state}), want)
	}
}

// P13.1: a Member's Incarnation at its edges.
func TestCheckIncarnation(t *testing.T) {
	for n, want := range map[int]api.Errno{-1: api.ErrPacket, 0: api.OK, 1: api.OK, incarnation - 1: api.OK, incarnation: api.OK, incarnation + 1: api.ErrPacket, most: api.ErrPacket, math.MinInt: api.ErrPacket, math.MaxInt: api.ErrPacket} {
		holdCheck(t, withMembers(api.Member{Incarnation: n}), want)
	}
	for _, n := range edges {
		holdCheck(t, changed(func(p *api.Packet) { p.Members[1].Incarnation = n }), told(n >= 0 && n <= incarnation))
	}
}

// P13.1: how many Members and Entries there may be.
func TestCheckHowMany(t *testing.T) {
	for _, n := range []int{0, 1, 2, 63, 64, 65, 66, 128, 256, 257, 5000} {
		holdCheck(t, withMembers(members(n)...), told(n <= 64))
	}
	for _, n := range []int{0, 1, 64, 65, 255, 256, 257, 258, 512, 5000} {
		holdCheck(t, withEntries(entries(n)...), told(n <= 256))
	}
	// The same one several times counts several times.
	holdCheck(t, withMembers(slices.Repeat([]api.Member{{Node: 5}}, 64)...), api.OK)
	holdCheck(t, withMembers(slices.Repeat([]api.Member{{Node: 5}}, 65)...), api.ErrPacket)
	holdCheck(t, withEntries(slices.Repeat([]api.Entry{{Key: "k"}}, 256)...), api.OK)
	holdCheck(t, withEntries(slices.Repeat([]api.Entry{{Key: "k"}}, 257)...), api.ErrPacket)
	holdCheck(t, api.Packet{Members: members(64), Entries: entries(256)}, api.OK)
	holdCheck(t, api.Packet{Members: members(65), Entries: entries(256)}, api.ErrPacket)
	holdCheck(t, api.Packet{Members: members(64), Entries: entries(257)}, api.ErrPacket)
}

// P13.1: a wrong Member at each place.
func TestCheckMembersAtEachPlace(t *testing.T) {
	for i := range 64 {
		for _, wrong := range []api.Member{{Node: 64}, {State: 3}, {Incarnation: -1}, {Incarnation: incarnation + 1}, {Node: 65535, State: 255, Incarnation: math.MaxInt}} {
			l := members(64)
			l[i] = wrong
			holdCheck(t, withMembers(l...), api.ErrPacket)
		}
	}
}

// wrongEntries are ones that entry.Check refuses, by its errors.
var wrongEntries = map[api.Errno][]api.Entry{
	api.ErrLong: {{}, {Value: "v"}, {Key: xs(1025)}, {Key: "k", Value: xs(8193)}, {Time: -1}, {Key: "k", Value: xs(8193), Time: 5, Until: 4}, {Key: xs(20_000), Value: xs(20_000)}},
	api.ErrTime: {{Key: "k", Time: -1}, {Key: "k", Time: -1, Until: -1}, {Key: "k", Time: 5, Until: 4}, {Key: "k", Until: most + 1}, {Key: "k", Time: most + 1, Until: most + 1}, {Key: xs(1024), Value: xs(8192), Until: -1}, {Key: "k", Until: math.MaxInt}, {Key: "k", Time: math.MinInt, Until: math.MinInt}},
}

// P13.1: the error of an Entry that entry.Check refuses, at each place.
func TestCheckEntries(t *testing.T) {
	for want, l := range wrongEntries {
		for _, e := range l {
			holdCheck(t, withEntries(e), want)
			for _, place := range []int{0, 1, 128, 254, 255} {
				l := entries(256)
				l[place] = e
				holdCheck(t, withEntries(l...), want)
			}
		}
	}
	for _, e := range []api.Entry{{Key: "k"}, {Key: xs(1024)}, {Key: "k", Value: xs(8192)}, {Key: "k", Time: most, Until: most}, {Key: "k", Until: most}, {Key: "k", Origin: 65535}, {Key: "k", Origin: 64}} {
		holdCheck(t, withEntries(e), api.OK)
	}
}

// P13.1: of several Entries that entry.Check refuses the first one's error is told.
func TestCheckFirstEntry(t *testing.T) {
	for first, ahead := range wrongEntries {
		for _, behind := range wrongEntries {
			for _, a := range ahead {
				for _, b := range behind {
					holdCheck(t, withEntries(a, b), first)
					holdCheck(t, withEntries(api.Entry{Key: "k"}, a, api.Entry{Key: "k"}, b), first)
				}
			}
		}
	}
}

// wrongPackets change a packet that has at least one Member so that it is ErrPacket.
var wrongPackets = []func(p *api.Packet){
	func(p *api.Packet) { p.Kind = 5 },
	func(p *api.Packet) { p.From = 64 },
	func(p *api.Packet) { p.About = 64 },
	func(p *api.Packet) { p.Seq = -1 },
	func(p *api.Packet) { p.Seq = most + 1 },
	func(p *api.Packet) { p.Members = members(65) },
	func(p *api.Packet) { p.Members[0].Node = 64 },
	func(p *api.Packet) { p.Members[0].State = 3 },
	func(p *api.Packet) { p.Members[0].Incarnation = -1 },
	func(p *api.Packet) { p.Members[len(p.Members)-1].Incarnation = incarnation + 1 },
	func(p *api.Packet) { p.Entries = slices.Concat(p.Entries, entries(256)) },
}

// P13.1: where several things are wrong, ErrPacket is told ahead of an Entry's error, and that ahead of too many bytes.
func TestCheckWhichError(t *testing.T) {
	long := api.Entry{Key: "k", Value: xs(8192)}
	for _, wrong := range wrongPackets {
		for _, l := range wrongEntries {
			for _, e := range l {
				p := changed(func(p *api.Packet) { p.Entries = []api.Entry{e} })
				wrong(&p)
				holdCheck(t, p, api.ErrPacket)
			}
		}
		p := changed(func(p *api.Packet) { p.Entries = []api.Entry{long, long} })
		holdCheck(t, p, api.ErrLong)
		wrong(&p)
		holdCheck(t, p, api.ErrPacket)
	}
	for want, l := range wrongEntries {
		for _, e := range l {
			holdCheck(t, withEntries(long, long, e), want)
			holdCheck(t, withEntries(e, long, long), want)
			holdCheck(t, withEntries(long, e, long), want)
		}
	}
	all := changed(func(p *api.Packet) { p.Entries = []api.Entry{{Key: "k", Time: -1}, {}, long, long} })
	holdCheck(t, all, api.ErrTime)
	for _, wrong := range wrongPackets {
		wrong(&all)
		holdCheck(t, all, api.ErrPacket)
	}
}

// P13.1: packets of just so many bytes as there may be, and of some more and fewer.
func TestCheckBytes(t *testing.T) {
	for _, p := range []api.Packet{
		{}, ping(), full(), {Kind: 4, From: 63, About: 63, Seq: most}, withMembers(members(64)...), withEntries(entries(250)...),
		withEntries(api.Entry{Key: xs(1024), Time: most, Origin: 65535, Until: most}), {Members: members(64), Entries: entries(200)},
	} {
		for _, n := range []int{whole - 2, whole - 1, whole} {
			holdCheck(t, grown(t, p, n), api.OK)
		}
		for _, n := range []int{whole + 1, whole + 2, whole + 1000, 2 * whole} {
			holdCheck(t, grown(t, p, n), api.ErrLong)
		}
	}
}

// P13.1: each part's bytes count: one digit more anywhere makes a packet too long.
func TestCheckBytesOfEachPart(t *testing.T) {
	p := grown(t, full(), whole)
	holdCheck(t, p, api.OK)
	for _, change := range []func(p *api.Packet){
		func(p *api.Packet) { p.Seq = 100 },
		func(p *api.Packet) { p.Members[0].Node = 10 },
		func(p *api.Packet) { p.Members[1].Incarnation = 10 },
		func(p *api.Packet) { p.Members = append(p.Members, api.Member{}) },
		func(p *api.Packet) { p.Entries[0].Key = "kk" },
		func(p *api.Packet) { p.Entries[1].Time, p.Entries[1].Until = 100, 100 },
		func(p *api.Packet) { p.Entries[0].Origin = 10 },
		func(p *api.Packet) { p.Entries[0].Value = "vv" },
		func(p *api.Packet) { p.Entries[1].Until = 100 },
		func(p *api.Packet) { p.Entries = append(p.Entries, api.Entry{Key: "k"}) },
	} {
		other := p
		other.Members, other.Entries = slices.Clone(p.Members), slices.Clone(p.Entries)
		change(&other)
		holdCheck(t, other, api.ErrLong)
	}
	holdCheck(t, withEntries(slices.Repeat([]api.Entry{{Key: "k", Value: xs(46)}}, 256)...), api.OK)
	holdCheck(t, withEntries(slices.Repeat([]api.Entry{{Key: "k", Value: xs(47)}}, 256)...), api.ErrLong)
	holdCheck(t, withEntries(slices.Repeat([]api.Entry{{Key: xs(1024), Value: xs(8192)}}, 256)...), api.ErrLong)
}

// drawn tells a packet that is drawn: one that may be, and then perhaps with some numbers at edges.
func drawn(source *rand.Rand) api.Packet {
	p := api.Packet{Kind: uint8(source.Intn(5)), From: uint16(source.Intn(64)), About: uint16(source.Intn(64)), Seq: source.Intn(most)}
	for range source.Intn(4) {
		p.Members = append(p.Members, api.Member{Node: uint16(source.Intn(64)), State: api.State(source.Intn(3)), Incarnation: source.Intn(incarnation)})
	}
	for range source.Intn(4) {
		time := source.Intn(1000)
		p.Entries = append(p.Entries, api.Entry{Key: "k" + xs(source.Intn(12)), Time: time, Origin: uint16(source.Intn(1 << 16)), Value: xs(source.Intn(12)), Until: time + source.Intn(1000)})
	}
	edge := func() int { return edges[source.Intn(len(edges))] }
	changes := []func(){
		func() { p.Kind = uint8(edge()) },
		func() { p.From = uint16(edge()) },
		func() { p.About = uint16(edge()) },
		func() { p.Seq = edge() },
		func() { p.Members = append(p.Members, api.Member{Node: uint16(edge())}) },
		func() { p.Members = append(p.Members, api.Member{State: api.State(edge())}) },
		func() { p.Members = append(p.Members, api.Member{Incarnation: edge()}) },
		func() { p.Members = append(p.Members, members(61+source.Intn(5))...) },
		func() { p.Entries = append(p.Entries, entries(253+source.Intn(5))...) },
		func() { p.Entries = append(p.Entries, api.Entry{Key: "k", Time: edge(), Until: edge()}) },
		func() { p.Entries = append(p.Entries, api.Entry{Value: "v"}) },
		func() { p.Entries = append(p.Entries, api.Entry{Key: "k", Value: xs(8100 + source.Intn(100))}) },
		func() { p.Entries = append(p.Entries, api.Entry{Key: xs(1000 + source.Intn(30))}) },
	}
	for range source.Intn(4) {
		changes[source.Intn(len(changes))]()
	}
	return p
}

// P13.1 (and P13.2 and P13.4): packets that are drawn, against the chapter's words.
func TestCheckWords(t *testing.T) {
	source := rand.New(rand.NewSource(13))
	counts := map[api.Errno]int{}
	for range 30_000 {
		p := drawn(source)
		holdPut(t, p)
		counts[packet.Check(p)]++
	}
	for _, err := range []api.Errno{api.OK, api.ErrPacket, api.ErrLong, api.ErrTime} {
		if counts[err] < 1000 {
			t.Errorf("%d packets have the error %d: they say too little", counts[err], int(err))
		}
	}
}
