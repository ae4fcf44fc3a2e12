package packet_test

import (
	"math"
	"math/rand"
	"slices"
	"testing"

	"watchfire/api"
	"watchfire/packet"
)

// holdSame holds what Same answers, both ways round.
func holdSame(t *testing.T, a, b api.Packet, want bool) {
	t.Helper()
	if packet.Same(a, b) != want || packet.Same(b, a) != want {
		t.Errorf("Same(%s, %s) = %v, and %v", show(a), show(b), packet.Same(a, b), packet.Same(b, a))
	}
	if alike(a, b) != want {
		t.Errorf("Same(%s, %s), by words: %v", show(a), show(b), alike(a, b))
	}
}

// P13.3: packets that differ in one field alone.
func TestSameInAllButOne(t *testing.T) {
	holdSame(t, full(), full(), true)
	for _, change := range []func(p *api.Packet){
		func(p *api.Packet) { p.Kind = api.Pull },
		func(p *api.Packet) { p.Kind = 255 },
		func(p *api.Packet) { p.From = 13 },
		func(p *api.Packet) { p.From += 256 },
		func(p *api.Packet) { p.About = 35 },
		func(p *api.Packet) { p.About += 256 },
		func(p *api.Packet) { p.From, p.About = p.About, p.From },
		func(p *api.Packet) { p.Seq = 57 },
		func(p *api.Packet) { p.Seq += 1 << 32 },
		func(p *api.Packet) { p.Seq = -p.Seq },
		func(p *api.Packet) { p.Members[0].Node++ },
		func(p *api.Packet) { p.Members[0].State = api.Dead },
		func(p *api.Packet) { p.Members[0].Incarnation++ },
		func(p *api.Packet) { p.Members[1].Node++ },
		func(p *api.Packet) { p.Members[1].State = api.Dead },
		func(p *api.Packet) { p.Members[1].Incarnation = -1 },
		func(p *api.Packet) { p.Members[1].Incarnation += 1 << 32 },
		func(p *api.Packet) { p.Entries[0].Key = "K" },
		func(p *api.Packet) { p.Entries[0].Key = "" },
		func(p *api.Packet) { p.Entries[0].Time++ },
		func(p *api.Packet) { p.Entries[0].Origin++ },
		func(p *api.Packet) { p.Entries[0].Value = "" },
		func(p *api.Packet) { p.Entries[0].Until++ },
		func(p *api.Packet) { p.Entries[1].Key += "l" },
		func(p *api.Packet) { p.Entries[1].Time-- },
		func(p *api.Packet) { p.Entries[1].Origin += 256 },
		func(p *api.Packet) { p.Entries[1].Value += "\x00" },
		func(p *api.Packet) { p.Entries[1].Until = math.MaxInt },
	} {
		holdSame(t, full(), changed(change), false)
		holdSame(t, changed(change), changed(change), true)
	}
}

// P13.3: lists of other lengths, or in another order.
func TestSameOfLists(t *testing.T) {
	for _, change := range []func(p *api.Packet){
		func(p *api.Packet) { p.Members = nil },
		func(p *api.Packet) { p.Members = p.Members[:1] },
		func(p *api.Packet) { p.Members = p.Members[1:] },
		func(p *api.Packet) { p.Members = append(p.Members, api.Member{}) },
		func(p *api.Packet) { p.Members = append(p.Members, p.Members...) },
		func(p *api.Packet) { slices.Reverse(p.Members) },
		func(p *api.Packet) { p.Members[1] = p.Members[0] },
		func(p *api.Packet) { p.Members = members(100) },
		func(p *api.Packet) { p.Entries = nil },
		func(p *api.Packet) { p.Entries = p.Entries[:1] },
		func(p *api.Packet) { p.Entries = p.Entries[1:] },
		func(p *api.Packet) { p.Entries = append(p.Entries, api.Entry{}) },
		func(p *api.Packet) { p.Entries = append(p.Entries, p.Entries...) },
		func(p *api.Packet) { slices.Reverse(p.Entries) },
		func(p *api.Packet) { p.Entries[1] = p.Entries[0] },
		func(p *api.Packet) { p.Entries = entries(300) },
		func(p *api.Packet) { p.Members, p.Entries = nil, nil },
	} {
		holdSame(t, full(), changed(change), false)
		holdSame(t, changed(change), changed(change), true)
	}
}

// P13.3, Rule 3: nil and an empty list are the same.
func TestSameOfEmptyLists(t *testing.T) {
	for _, m := range [][]api.Member{nil, {}, members(3)[:0]} {
		for _, e := range [][]api.Entry{nil, {}, entries(3)[:0]} {
			p := ping()
			p.Members, p.Entries = m, e
			holdSame(t, p, ping(), true)
			p.Seq++
			holdSame(t, p, ping(), false)
			holdSame(t, api.Packet{Members: m, Entries: e}, api.Packet{}, true)
			holdSame(t, api.Packet{Members: m, Entries: e}, withMembers(api.Member{}), false)
			holdSame(t, api.Packet{Members: m, Entries: e}, api.Packet{Members: []api.Member{{}}}, false)
			holdSame(t, api.Packet{Members: m, Entries: e}, api.Packet{Entries: []api.Entry{{}}}, false)
		}
	}
}

// P13.3: packets that may not be are held against each other, too.
func TestSameOfWrongPackets(t *testing.T) {
	var l []api.Packet
	for _, wrong := range wrongPackets {
		p := full()
		wrong(&p)
		l = append(l, p)
	}
	for _, wrong := range wrongEntries {
		for _, e := range wrong {
			l = append(l, withEntries(e))
		}
	}
	for i, a := range l {
		for k, b := range l {
			holdSame(t, a, b, i == k)
		}
	}
}

// P13.4: two packets are the same just if they are put in the same way.
func TestSameJustIfPutSo(t *testing.T) {
	l := some()
	source := rand.New(rand.NewSource(4))
	for range 500 {
		if p := drawn(source); wantCheck(p) == api.OK && len(wantLaid(p)) < 1000 {
			l = append(l, p)
		}
	}
	laid := make([]string, len(l))
	for i, p := range l {
		b, err := packet.Put(p)
		if err != api.OK {
			t.Fatalf("Put(%s): error %d", show(p), int(err))
		}
		laid[i] = string(b)
	}
	for i, a := range l {
		for k, b := range l {
			if packet.Same(a, b) != (laid[i] == laid[k]) {
				t.Errorf("Same(%s, %s) = %v", show(a), show(b), packet.Same(a, b))
			}
		}
	}
	if known := len(some()); len(slices.Compact(slices.Sorted(slices.Values(laid[:known])))) != known {
		t.Error("two packets that differ are put in one way")
	}
}
