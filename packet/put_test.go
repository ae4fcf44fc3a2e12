package packet_test

import (
	"math"
	"slices"
	"strings"
	"testing"

	"watchfire/api"
	"watchfire/packet"
)

// P13.2: packets and their bytes, written out.
func TestPut(t *testing.T) {
	for want, p := range map[string]api.Packet{
		"li0ei1ei2ei3elelee":                                 {From: 1, About: 2, Seq: 3},
		"li0ei0ei0ei0elelee":                                 {},
		"li4ei63ei62ei1099511627776elelee":                   {Kind: api.Pull, From: 63, About: 62, Seq: 1 << 40},
		"li1ei0ei0ei0elli0ei0ei0eeelee":                      {Kind: api.Ack, Members: []api.Member{{}}},
		"li2ei0ei0ei0elli63ei2ei1073741824eeli1ei0ei1eeelee": {Kind: api.Ask, Members: []api.Member{{Node: 63, State: api.Dead, Incarnation: 1 << 30}, {Node: 1, Incarnation: 1}}},
		"li3ei1ei0ei0elli2ei1ei3eeell1:ki5ei1e1:vi9eeee":     {Kind: api.Push, From: 1, Members: []api.Member{{Node: 2, State: api.Suspect, Incarnation: 3}}, Entries: []api.Entry{{Key: "k", Time: 5, Origin: 1, Value: "v", Until: 9}}},
		"li0ei0ei0ei0elell1:bi0ei0e0:i0eel1:ai0ei0e0:i0eeee": {Entries: []api.Entry{{Key: "b"}, {Key: "a"}}},
		"li0ei0ei0ei0elell2:\x00\xffi0ei65535e1:ei1eeee":     {Entries: []api.Entry{{Key: "\x00\xff", Origin: 65535, Value: "e", Until: 1}}},
		fullBytes: full(),
	} {
		if b, err := packet.Put(p); err != api.OK || string(b) != want {
			t.Errorf("Put = %q, %d, not %q", b, int(err), want)
		}
		if again, err := packet.Read([]byte(want)); err != api.OK || !alike(again, p) {
			t.Errorf("Read(%q) = %s, %d", want, show(again), int(err))
		}
		holdPut(t, p)
	}
}

// P13.2: each Kind, and each node.
func TestPutOfNumbers(t *testing.T) {
	for kind := range uint8(5) {
		for node := range uint16(64) {
			for state := range api.State(3) {
				holdPut(t, api.Packet{Kind: kind, From: node, About: 63 - node, Members: []api.Member{{Node: node, State: state, Incarnation: int(node)}}})
			}
		}
	}
}

// P13.2: no Members and no Entries, told by nil or by lists with nothing in them.
func TestPutOfEmptyLists(t *testing.T) {
	for _, m := range [][]api.Member{nil, {}, members(3)[:0]} {
		for _, e := range [][]api.Entry{nil, {}, entries(3)[:0]} {
			p := ping()
			p.Members, p.Entries = m, e
			if b, err := packet.Put(p); err != api.OK || string(b) != "li0ei1ei2ei3elelee" {
				t.Errorf("Put = %q, %d", b, int(err))
			}
			holdPut(t, p)
		}
	}
}

// P13.2, Rule 2: with an error there are no bytes.
func TestPutOfWrong(t *testing.T) {
	for _, wrong := range wrongPackets {
		p := full()
		wrong(&p)
		if b, err := packet.Put(p); err != api.ErrPacket || len(b) != 0 {
			t.Errorf("Put(%s) = %s, %d", show(p), short(string(b)), int(err))
		}
	}
	for want, l := range wrongEntries {
		for _, e := range l {
			if b, err := packet.Put(withEntries(api.Entry{Key: "k"}, e)); err != want || len(b) != 0 {
				t.Errorf("Put = %s, %d, not %d", short(string(b)), int(err), int(want))
			}
		}
	}
	if b, err := packet.Put(grown(t, full(), whole+1)); err != api.ErrLong || len(b) != 0 {
		t.Errorf("Put = %s, %d", short(string(b)), int(err))
	}
	if b, err := packet.Put(grown(t, full(), whole)); err != api.OK || len(b) != whole {
		t.Errorf("Put = %s, %d", short(string(b)), int(err))
	}
}

// P13.2: Member of any numbers, those that may not be, too.
func TestMember(t *testing.T) {
	for want, m := range map[string]api.Member{
		"li0ei0ei0ee":                         {},
		"li2ei1ei3ee":                         {Node: 2, State: api.Suspect, Incarnation: 3},
		"li63ei2ei1073741824ee":               {Node: 63, State: api.Dead, Incarnation: 1 << 30},
		"li64ei3ei-1ee":                       {Node: 64, State: 3, Incarnation: -1},
		"li65535ei255ei9223372036854775807ee": {Node: 65535, State: 255, Incarnation: math.MaxInt},
		"li10ei0ei-9223372036854775808ee":     {Node: 10, Incarnation: math.MinInt},
	} {
		if got := string(packet.Member(m)); got != want {
			t.Errorf("Member(%v) = %q, not %q", m, got, want)
		}
	}
	for _, node := range edges {
		for _, state := range edges {
			for _, incarnation := range edges {
				m := api.Member{Node: uint16(node), State: api.State(state), Incarnation: incarnation}
				if got := string(packet.Member(m)); got != wantMember(m) {
					t.Errorf("Member(%v) = %q, not %q", m, got, wantMember(m))
				}
			}
		}
	}
}

// Rule 3: the packet that is handed in stays as it is, with its lists' spare room.
func TestPutChangesNothing(t *testing.T) {
	for _, p := range append(some(), grown(t, full(), whole+1), withEntries(api.Entry{}), withMembers(api.Member{Node: 64})) {
		m, e := slices.Concat(p.Members, members(3)), slices.Concat(p.Entries, entries(3))
		handed := p
		handed.Members, handed.Entries = m[:len(p.Members)], e[:len(p.Entries)]
		packet.Check(handed)
		packet.Put(handed)
		packet.Same(handed, handed)
		if !alike(handed, p) || !slices.Equal(m, slices.Concat(p.Members, members(3))) || !slices.Equal(e, slices.Concat(p.Entries, entries(3))) {
			t.Errorf("%s changed: %s", show(p), show(handed))
		}
	}
}

// clobber writes over b and its spare room.
func clobber(b []byte) {
	b = b[:cap(b)]
	for i := range b {
		b[i] = '#'
	}
}

// Rule 3: bytes that were told are new memory, with their spare room.
func TestPutSharesNothing(t *testing.T) {
	p := full()
	first, _ := packet.Put(p)
	second, _ := packet.Put(p)
	clobber(first)
	p.Members[0].Node, p.Entries[0].Key = 33, "other"
	if string(second) != fullBytes {
		t.Errorf("it became %q", second)
	}
	m := api.Member{Node: 2}
	one, other := packet.Member(m), packet.Member(m)
	clobber(one)
	if string(other) != "li2ei0ei0ee" || string(packet.Member(m)) != "li2ei0ei0ee" {
		t.Errorf("it became %q", other)
	}
}

// P13.3: Size of entries that may be, and that may not.
func TestSize(t *testing.T) {
	for _, try := range []struct {
		e    api.Entry
		want int
	}{
		{api.Entry{Key: "k", Time: 5, Origin: 1, Value: "v", Until: 9}, 17},
		{api.Entry{Key: "k", Time: 5, Origin: 1, Value: "v", Until: 4}, 17},
		{api.Entry{}, 15},
		{api.Entry{Key: xs(9)}, 24},
		{api.Entry{Key: xs(10)}, 26},
		{api.Entry{Value: xs(99)}, 115},
		{api.Entry{Value: xs(100)}, 117},
		{api.Entry{Time: -1, Until: -10}, 18},
		{api.Entry{Origin: 65535}, 19},
		{api.Entry{Key: "\u00e4", Value: "\xff"}, 18},
		{api.Entry{Time: math.MinInt, Until: math.MaxInt}, 15 + 19 + 18},
		{api.Entry{Key: xs(1024), Time: most, Origin: 65535, Value: xs(8192), Until: most}, 9265},
		{api.Entry{Key: xs(1025), Value: xs(8193)}, 15 + 1025 + 8193 + 6},
		{api.Entry{Key: xs(1_000_000), Value: xs(2_000_000)}, 15 + 3_000_000 + 12},
	} {
		if got := packet.Size(try.e); got != try.want || len(wantEntry(try.e)) != try.want {
			t.Errorf("Size(%s) = %d, not %d (by words: %d)", short(wantEntry(try.e)), got, try.want, len(wantEntry(try.e)))
		}
	}
	for _, time := range edges {
		for _, until := range edges {
			for _, n := range []int{0, 1, 9, 10, 99, 100, 999, 1000, 1024, 1025, 8192, 8193, 9999, 10000} {
				e := api.Entry{Key: xs(n), Time: time, Origin: uint16(until), Value: strings.Repeat("e", 2*n), Until: until}
				if got := packet.Size(e); got != len(wantEntry(e)) {
					t.Errorf("Size(%s) = %d", short(wantEntry(e)), got)
				}
			}
		}
	}
}

// P13.3: an entry takes just its Size of a packet's bytes.
func TestSizeWithinAPacket(t *testing.T) {
	for _, e := range []api.Entry{{Key: "k"}, {Key: xs(1024), Value: xs(1000)}, {Key: "k", Time: most, Origin: 300, Until: most}} {
		without, err1 := packet.Put(full())
		with, err2 := packet.Put(changed(func(p *api.Packet) { p.Entries = append(p.Entries, e) }))
		if err1 != api.OK || err2 != api.OK || len(with)-len(without) != packet.Size(e) {
			t.Errorf("%d bytes more, not %d", len(with)-len(without), packet.Size(e))
		}
	}
}

// FuzzPut holds what Check, Put and Read answer of packets of any numbers and texts against the chapter's words.
func FuzzPut(f *testing.F) {
	f.Add(uint8(3), uint16(1), uint16(2), 3, uint16(2), uint8(1), 3, "k", 5, uint16(1), "v", 9, uint8(1), uint16(1))
	f.Add(uint8(4), uint16(63), uint16(63), most, uint16(63), uint8(2), incarnation, xs(1024), most, uint16(65535), "", most, uint8(64), uint16(2))
	f.Fuzz(func(t *testing.T, kind uint8, from, about uint16, seq int, node uint16, state uint8, incarnation int, key string, time int, origin uint16, value string, until int, howManyMembers uint8, howManyEntries uint16) {
		m := api.Member{Node: node, State: api.State(state), Incarnation: incarnation}
		e := api.Entry{Key: key, Time: time, Origin: origin, Value: value, Until: until}
		l := slices.Repeat([]api.Member{m}, int(howManyMembers))
		entries := slices.Repeat([]api.Entry{e}, int(howManyEntries%300))
		holdPut(t, api.Packet{Kind: kind, From: from, About: about, Seq: seq, Members: l, Entries: entries})
		// Most packets fail by their numbers: so their lists are asked with right ones, too.
		holdPut(t, api.Packet{Kind: kind % 5, From: from % 64, About: about % 64, Members: l, Entries: entries})
		holdPut(t, api.Packet{Kind: kind % 5, From: from % 64, About: about % 64, Entries: entries})
		if got := packet.Size(e); got != len(wantEntry(e)) {
			t.Errorf("Size = %d", got)
		}
		if got := string(packet.Member(m)); got != wantMember(m) {
			t.Errorf("Member(%v) = %q", m, got)
		}
	})
}
