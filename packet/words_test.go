package packet_test

import (
	"fmt"
	"math"
	"math/big"
	"reflect"
	"regexp"
	"slices"
	"strconv"
	"strings"
	"testing"

	"watchfire/api"
	"watchfire/packet"
)

const (
	most        = 1 << 40
	incarnation = 1 << 30
	whole       = 16384
)

// ping is a packet that may be, with no lists.
func ping() api.Packet { return api.Packet{From: 1, About: 2, Seq: 3} }

// full is a packet that may be, with all its parts, which the tests change. Each call tells a new one.
func full() api.Packet {
	return api.Packet{
		Kind: api.Push, From: 12, About: 34, Seq: 56,
		Members: []api.Member{{Node: 7, State: api.Suspect, Incarnation: 8}, {Node: 9}},
		Entries: []api.Entry{{Key: "k", Time: 5, Origin: 1, Value: "v", Until: 9}, {Key: "ll", Time: 10, Origin: 300, Value: "1:e", Until: 10}},
	}
}

// fullBytes are those of full.
const fullBytes = "li3ei12ei34ei56elli7ei1ei8eeli9ei0ei0eeell1:ki5ei1e1:vi9eel2:lli10ei300e3:1:ei10eeee"

// changed tells the full packet with something changed.
func changed(change func(p *api.Packet)) api.Packet {
	p := full()
	change(&p)
	return p
}

// withMembers tells the ping with these members.
func withMembers(l ...api.Member) api.Packet {
	p := ping()
	p.Members = l
	return p
}

// withEntries tells the ping with these entries.
func withEntries(l ...api.Entry) api.Packet {
	p := ping()
	p.Entries = l
	return p
}

// members tells so many members.
func members(n int) []api.Member {
	var l []api.Member
	for i := range n {
		l = append(l, api.Member{Node: uint16(i % 64), State: api.State(i % 3), Incarnation: i})
	}
	return l
}

// entries tells so many entries.
func entries(n int) []api.Entry {
	var l []api.Entry
	for i := range n {
		l = append(l, api.Entry{Key: strconv.Itoa(i), Time: i, Origin: uint16(i), Value: strings.Repeat("v", i%3), Until: 2 * i})
	}
	return l
}

// xs tells a text of so many bytes.
func xs(n int) string { return strings.Repeat("x", n) }

// grown tells the packet with entries behind its own, so that it has just so many bytes.
func grown(t testing.TB, p api.Packet, bytes int) api.Packet {
	t.Helper()
	for bytes-len(wantLaid(p)) > 8250 {
		p.Entries = append(slices.Clone(p.Entries), api.Entry{Key: "k", Value: xs(8000)})
	}
	// Where one byte more of a value makes its length one digit longer, a longer key takes the byte that is left.
	for _, key := range []string{"k", "kk"} {
		lack := bytes - len(wantLaid(p)) - len(wantEntry(api.Entry{Key: key}))
		for digits := range 4 {
			e := api.Entry{Key: key, Value: xs(max(0, lack-digits))}
			other := p
			if other.Entries = append(slices.Clone(p.Entries), e); len(wantLaid(other)) == bytes {
				return other
			}
		}
	}
	t.Fatalf("no packet of %d bytes", bytes)
	return p
}

// short tells a text as it may stand in a test's message.
func short(s string) string {
	if len(s) > 200 {
		return fmt.Sprintf("%q..%q (%d bytes)", s[:80], s[len(s)-80:], len(s))
	}
	return strconv.Quote(s)
}

// show tells a packet, likewise.
func show(p api.Packet) string {
	return short(wantLaid(p))
}

// wantMember tells a member's bytes, by the words of P13.2 and of P1.1.
func wantMember(m api.Member) string {
	return fmt.Sprintf("li%dei%dei%dee", m.Node, m.State, m.Incarnation)
}

// wantEntry tells an entry's bytes, by the words of P9.3 and of P1.1.
func wantEntry(e api.Entry) string {
	return fmt.Sprintf("l%d:%si%dei%de%d:%si%dee", len(e.Key), e.Key, e.Time, e.Origin, len(e.Value), e.Value, e.Until)
}

// wantLaid tells the bytes that a packet would have, by the words of P13.2.
func wantLaid(p api.Packet) string {
	var s strings.Builder
	fmt.Fprintf(&s, "li%dei%dei%dei%del", p.Kind, p.From, p.About, p.Seq)
	for _, m := range p.Members {
		s.WriteString(wantMember(m))
	}
	s.WriteString("el")
	for _, e := range p.Entries {
		s.WriteString(wantEntry(e))
	}
	s.WriteString("ee")
	return s.String()
}

// wantCheck tells P13.1's words.
func wantCheck(p api.Packet) api.Errno {
	if p.Kind > 4 || p.From > 63 || p.About > 63 || p.Seq < 0 || p.Seq > 1099511627776 || len(p.Members) > 64 || len(p.Entries) > 256 {
		return api.ErrPacket
	}
	for _, m := range p.Members {
		if m.Node > 63 || m.State > 2 || m.Incarnation < 0 || m.Incarnation > 1073741824 {
			return api.ErrPacket
		}
	}
	for _, e := range p.Entries {
		switch {
		case e.Key == "", len(e.Key) > 1024, len(e.Value) > 8192:
			return api.ErrLong
		case e.Time < 0, e.Time > 1099511627776, e.Until < e.Time, e.Until > 1099511627776:
			return api.ErrTime
		}
	}
	if len(wantLaid(p)) > 16384 {
		return api.ErrLong
	}
	return api.OK
}

var (
	aNumber = regexp.MustCompile(`\Ai(0|-?[1-9][0-9]*)e`)
	aLength = regexp.MustCompile(`\A(0|[1-9][0-9]*):`)
)

// look goes through bytes by the chapters' words; ok is false from the first fault on.
type look struct {
	rest string
	ok   bool
}

// next takes a text away that must come next.
func (l *look) next(s string) {
	rest, ok := strings.CutPrefix(l.rest, s)
	l.rest, l.ok = rest, l.ok && ok
}

// digits takes away what is like the pattern, and tells the number in it, which must be from low to high.
func (l *look) digits(pattern *regexp.Regexp, low, high int) int {
	found := pattern.FindStringSubmatch(l.rest)
	if found == nil {
		l.ok = false
		return 0
	}
	l.rest = l.rest[len(found[0]):]
	n, _ := new(big.Int).SetString(found[1], 10)
	if n.Cmp(big.NewInt(int64(low))) < 0 || n.Cmp(big.NewInt(int64(high))) > 0 {
		l.ok = false
		return 0
	}
	return int(n.Int64())
}

// number tells the number that comes next.
func (l *look) number(low, high int) int { return l.digits(aNumber, low, high) }

// text tells the text that comes next, of so many bytes at least, and at most.
func (l *look) text(fewest, most int) string {
	n := l.digits(aLength, fewest, most)
	if n > len(l.rest) {
		l.ok = false
		return ""
	}
	text := l.rest[:n]
	l.rest = l.rest[n:]
	return text
}

// goesOn tells whether one more comes ahead of the list's end.
func (l *look) goesOn() bool { return l.ok && l.rest != "" && l.rest[0] != 'e' }

// wantRead tells P13.2's words of Read: the packet of which these are the bytes, if there is one.
func wantRead(s string) (api.Packet, bool) {
	l := &look{rest: s, ok: len(s) <= 16384}
	var p api.Packet
	l.next("l")
	p.Kind = uint8(l.number(0, 4))
	p.From = uint16(l.number(0, 63))
	p.About = uint16(l.number(0, 63))
	p.Seq = l.number(0, 1099511627776)
	l.next("l")
	for l.goesOn() {
		l.next("l")
		p.Members = append(p.Members, api.Member{Node: uint16(l.number(0, 63)), State: api.State(l.number(0, 2)), Incarnation: l.number(0, 1073741824)})
		l.next("e")
	}
	l.next("el")
	for l.goesOn() {
		l.next("l")
		e := api.Entry{Key: l.text(1, 1024), Time: l.number(0, 1099511627776), Origin: uint16(l.number(0, 65535)), Value: l.text(0, 8192)}
		e.Until = l.number(e.Time, 1099511627776)
		p.Entries = append(p.Entries, e)
		l.next("e")
	}
	l.next("ee")
	if !l.ok || l.rest != "" || len(p.Members) > 64 || len(p.Entries) > 256 {
		return api.Packet{}, false
	}
	return p, true
}

// alike tells whether two packets have the same in all fields; an empty list and nil are the same.
func alike(a, b api.Packet) bool {
	for _, p := range []*api.Packet{&a, &b} {
		p.Members = append([]api.Member{}, p.Members...)
		p.Entries = append([]api.Entry{}, p.Entries...)
	}
	return reflect.DeepEqual(a, b)
}

// isZero tells whether nothing is in a packet.
func isZero(p api.Packet) bool {
	return alike(p, api.Packet{})
}

// holdCheck holds what Check answers against what is wanted, and against the chapter's words; and what Put answers, which has that error.
func holdCheck(t *testing.T, p api.Packet, want api.Errno) {
	t.Helper()
	if got := packet.Check(p); got != want {
		t.Errorf("Check(%s) = %d, not %d", show(p), int(got), int(want))
	}
	if words := wantCheck(p); words != want {
		t.Errorf("Check(%s), by words: %d, not %d", show(p), int(words), int(want))
	}
	holdPut(t, p)
}

// holdPut holds what Check and Put answer against the chapter's words, and tells whether the packet may be. What is put is read again.
func holdPut(t *testing.T, p api.Packet) bool {
	t.Helper()
	err := wantCheck(p)
	want := ""
	if err == api.OK {
		want = wantLaid(p)
	}
	if got := packet.Check(p); got != err {
		t.Fatalf("Check(%s) = %d, not %d", show(p), int(got), int(err))
	}
	b, got := packet.Put(p)
	if got != err || string(b) != want {
		t.Fatalf("Put(%s) = %s, %d, not %s, %d", show(p), short(string(b)), int(got), short(want), int(err))
	}
	if err != api.OK {
		return false
	}
	if again, err := packet.Read(b); err != api.OK || !alike(again, p) || !packet.Same(again, p) {
		t.Fatalf("Read(%s) = %s, %d", short(want), show(again), int(err))
	}
	return true
}

// holdRead holds what Read tells of s against the chapter's words, and tells whether it is a packet. It is one just if Put lays s for it.
func holdRead(t *testing.T, s string) bool {
	t.Helper()
	want, is := wantRead(s)
	got, err := packet.Read([]byte(s))
	if !alike(got, want) || is != (err == api.OK) || !is && err != api.ErrPacket {
		t.Fatalf("Read(%s) = %s, %d, not %s, %v", short(s), show(got), int(err), show(want), is)
	}
	if !is {
		return false
	}
	if b, err := packet.Put(got); err != api.OK || string(b) != s {
		t.Fatalf("Put(%s) = %s, %d, not %s", show(got), short(string(b)), int(err), short(s))
	}
	return true
}

// holdNone holds that these bytes are no packet's.
func holdNone(t *testing.T, s string) {
	t.Helper()
	if p, err := packet.Read([]byte(s)); err != api.ErrPacket || !isZero(p) {
		t.Errorf("Read(%s) = %s, %d", short(s), show(p), int(err))
	}
	if p, is := wantRead(s); is {
		t.Errorf("Read(%s), by words: %s", short(s), show(p))
	}
}

// edges are numbers at which fields end, and at which numbers do.
var edges = []int{
	math.MinInt, math.MinInt + 1, -most - 1, -most, -1 << 32, -incarnation, -256, -64, -1, 0, 1, 2, 3, 4, 5, 62, 63, 64, 65, 255, 256, 65535, 65536,
	incarnation - 1, incarnation, incarnation + 1, 1 << 31, 1<<32 - 1, 1 << 32, 1<<32 + 1, most - 1, most, most + 1, 1 << 62, math.MaxInt - 1, math.MaxInt,
}

// some tells packets that may be, at the edges that the chapter names, no two of them the same.
func some() []api.Packet {
	l := []api.Packet{
		{}, ping(), full(), {Kind: api.Pull, From: 63, About: 63, Seq: most},
		withMembers(api.Member{}), withMembers(api.Member{}, api.Member{}), withMembers(api.Member{Node: 63, State: api.Dead, Incarnation: incarnation}), withMembers(members(64)...),
		withEntries(api.Entry{Key: "k"}), withEntries(api.Entry{Key: "k"}, api.Entry{Key: "k"}), withEntries(api.Entry{Key: xs(1024), Time: most, Origin: 65535, Value: xs(8192), Until: most}), withEntries(entries(256)...),
		{Kind: api.Ack, Members: members(64), Entries: entries(256)}, {Members: members(3), Entries: entries(1)}, {Members: members(1), Entries: entries(3)},
		withEntries(api.Entry{Key: "k", Until: most}), withEntries(api.Entry{Key: "k", Value: wantLaid(full())}), withEntries(api.Entry{Key: wantLaid(full()), Value: "\x00\xff"}), withEntries(api.Entry{Key: "e", Value: "ee"}), withEntries(api.Entry{Key: "\xff", Value: "l"}),
	}
	for _, change := range []func(p *api.Packet){
		func(p *api.Packet) { p.Kind = api.Pull },
		func(p *api.Packet) { p.From = 63 },
		func(p *api.Packet) { p.About = 63 },
		func(p *api.Packet) { p.Seq = most },
		func(p *api.Packet) { p.From, p.About = p.About, p.From },
		func(p *api.Packet) { p.Members[0].Node = 63 },
		func(p *api.Packet) { p.Members[0].State = api.Dead },
		func(p *api.Packet) { p.Members[1].Incarnation = incarnation },
		func(p *api.Packet) { slices.Reverse(p.Members) },
		func(p *api.Packet) { p.Members = nil },
		func(p *api.Packet) { p.Entries[0].Key = xs(1024) },
		func(p *api.Packet) { p.Entries[0].Time = 9 },
		func(p *api.Packet) { p.Entries[0].Origin = 65535 },
		func(p *api.Packet) { p.Entries[1].Value = "" },
		func(p *api.Packet) { p.Entries[1].Until = most },
		func(p *api.Packet) { slices.Reverse(p.Entries) },
		func(p *api.Packet) { p.Entries = nil },
	} {
		l = append(l, changed(change))
	}
	return l
}
