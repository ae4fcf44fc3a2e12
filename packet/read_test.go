package packet_test

import (
	"fmt"
	"math/big"
	"slices"
	"strings"
	"testing"

	"watchfire/api"
	"watchfire/packet"
)

// fullParts tells the bytes of the full packet, part by part.
func fullParts() []string {
	return []string{
		"l", "i3e", "i12e", "i34e", "i56e",
		"l", "l", "i7e", "i1e", "i8e", "e", "l", "i9e", "i0e", "i0e", "e", "e",
		"l", "l", "1:k", "i5e", "i1e", "1:v", "i9e", "e", "l", "2:ll", "i10e", "i300e", "3:1:e", "i10e", "e", "e",
		"e",
	}
}

// with tells them joined, with another part at one place.
func with(place int, part string) string {
	parts := fullParts()
	parts[place] = part
	return strings.Join(parts, "")
}

// P13.2, the chapter's example: what Put lays is read, and with one byte more it is not.
func TestReadExample(t *testing.T) {
	p, err := packet.Read([]byte("li0ei1ei2ei3elelee"))
	if err != api.OK || !alike(p, ping()) {
		t.Errorf("Read = %s, %d", show(p), int(err))
	}
	for b := range 256 {
		holdNone(t, "li0ei1ei2ei3elelee"+string([]byte{byte(b)}))
		holdNone(t, string([]byte{byte(b)})+"li0ei1ei2ei3elelee")
	}
	if strings.Join(fullParts(), "") != fullBytes {
		t.Error("the parts are not those of the full packet")
	}
}

// P13.2: no bytes, and nil.
func TestReadOfNothing(t *testing.T) {
	for _, b := range [][]byte{nil, {}, []byte(fullBytes)[:0]} {
		if p, err := packet.Read(b); err != api.ErrPacket || !isZero(p) {
			t.Errorf("Read(%q) = %s, %d", b, show(p), int(err))
		}
	}
	holdNone(t, "")
}

// P13.2, P13.4: what Put lays is read again; with bytes ahead or behind, or cut anywhere, it is not.
func TestReadOfPut(t *testing.T) {
	for _, p := range append(some(), grown(t, full(), whole-1), grown(t, full(), whole)) {
		s := wantLaid(p)
		if !holdRead(t, s) {
			t.Errorf("Read(%s) is none", short(s))
		}
		for _, more := range []string{"e", "l", "x", "\x00", "\xff", " ", "\n", "i0e", "0:", "le", "ee", s, fullBytes} {
			holdNone(t, s+more)
			holdNone(t, more+s)
		}
		step := max(1, len(s)/300)
		for i := 0; i < len(s); i += step {
			holdNone(t, s[:i])
			if i > 0 {
				holdNone(t, s[i:])
			}
		}
		holdNone(t, s[:len(s)-1])
		holdNone(t, s[1:])
	}
}

// P13.2: right bytes with each byte changed, left out, doubled, or put in ahead of it, against the chapter's words.
func TestReadOfChanged(t *testing.T) {
	packets := 0
	hold := func(b []byte) {
		if holdRead(t, string(b)) {
			packets++
		}
	}
	for _, s := range []string{fullBytes, "li0ei1ei2ei3elelee", "li4ei63ei63ei1099511627776elli63ei2ei1073741824eeelee", "li3ei1ei0ei0elell3:1:ei5ei65535e4:ei1ei5eeee"} {
		for i := range s {
			for c := range 256 {
				other := []byte(s)
				other[i] = byte(c)
				hold(other)
				hold(slices.Insert([]byte(s), i, byte(c)))
			}
			hold(slices.Delete([]byte(s), i, i+1))
			hold(slices.Insert([]byte(s), i, s[i]))
		}
	}
	if packets < 2000 {
		t.Errorf("%d packets: the changes say too little", packets)
	}
}

// P13.2: numbers that are spelled otherwise, at each place.
func TestReadOfOtherSpellings(t *testing.T) {
	for place, part := range fullParts() {
		switch {
		case part[0] == 'i':
			digits := part[1 : len(part)-1]
			for _, s := range []string{"i0%se", "i00%se", "i+%se", "i %se", "i%s e", "i%s.0e", "i%s.e", "i0x%se", "i%s_e", "i%se0e", "I%se", "i%sE", "%s", "%se", "i%s", "i\x00%se", "i\u0660%se", "i" + strings.Repeat("0", 30) + "%se"} {
				holdNone(t, with(place, fmt.Sprintf(s, digits)))
			}
			for _, s := range []string{"ie", "i-e", "i-0e", "i+0e", "i-00e", "ixe", "0:", "1:5", "le", "li5ee", "e", "l", "", "i\u0665e"} {
				holdNone(t, with(place, s))
			}
		case strings.Contains(part, ":"):
			for _, s := range []string{"0%s", "00%s", "+%s", "-%s", " %s", "0x%s", "%sx", "x%s", "l%s", "i%s", "%s0:", "%si0e"} {
				holdNone(t, with(place, fmt.Sprintf(s, part)))
			}
			for _, s := range []string{"", ":", ":k", "k", "i5e", "le", "l1:ke", "-1:k", "01:k", "1 :k", "9:k", "1000000001:k", "4294967297:k", "18446744073709551617:k", "99999999999999999999999:k"} {
				holdNone(t, with(place, s))
			}
		}
	}
}

// P13.2: numbers that are not their fields', at each place; none of them is cut down to one that is.
func TestReadOfNumbersThatDoNotFit(t *testing.T) {
	for place, part := range fullParts() {
		if part[0] != 'i' {
			continue
		}
		n, _ := new(big.Int).SetString(part[1:len(part)-1], 10)
		for _, bits := range []uint{8, 16, 24, 30, 31, 32, 40, 48, 56, 62, 63, 64, 65, 128} {
			step := new(big.Int).Lsh(big.NewInt(1), bits)
			holdRead(t, with(place, "i"+new(big.Int).Add(n, step).String()+"e"))
			holdRead(t, with(place, "i"+new(big.Int).Sub(n, step).String()+"e"))
			if bits > 40 {
				holdNone(t, with(place, "i"+new(big.Int).Add(n, step).String()+"e"))
			}
		}
		for _, edge := range edges {
			holdRead(t, with(place, fmt.Sprintf("i%de", edge)))
		}
		holdNone(t, with(place, "i-1e"))
	}
	for _, s := range []string{
		"li5ei1ei2ei3elelee", "li255ei1ei2ei3elelee", "li256ei1ei2ei3elelee", "li260ei1ei2ei3elelee", "li-1ei1ei2ei3elelee", "li-256ei1ei2ei3elelee", "li18446744073709551616ei1ei2ei3elelee",
		"li0ei64ei2ei3elelee", "li0ei65536ei2ei3elelee", "li0ei65537ei2ei3elelee", "li0ei-1ei2ei3elelee", "li0ei-65535ei2ei3elelee",
		"li0ei1ei64ei3elelee", "li0ei1ei65536ei3elelee", "li0ei1ei65538ei3elelee", "li0ei1ei-1ei3elelee", "li0ei1ei-65534ei3elelee",
		"li0ei1ei2ei-1elelee", "li0ei1ei2ei1099511627777elelee", "li0ei1ei2ei9223372036854775808elelee", "li0ei1ei2ei18446744073709551619elelee",
		"li0ei1ei2ei3elli64ei0ei0eeelee", "li0ei1ei2ei3elli65536ei0ei0eeelee", "li0ei1ei2ei3elli-1ei0ei0eeelee",
		"li0ei1ei2ei3elli0ei3ei0eeelee", "li0ei1ei2ei3elli0ei256ei0eeelee", "li0ei1ei2ei3elli0ei-1ei0eeelee", "li0ei1ei2ei3elli0ei257ei0eeelee",
		"li0ei1ei2ei3elli0ei0ei-1eeelee", "li0ei1ei2ei3elli0ei0ei1073741825eeelee", "li0ei1ei2ei3elli0ei0ei4294967296eeelee",
		"li0ei1ei2ei3elell1:ki5ei65536e1:vi9eeee", "li0ei1ei2ei3elell1:ki5ei65537e1:vi9eeee", "li0ei1ei2ei3elell1:ki5ei-1e1:vi9eeee",
	} {
		holdNone(t, s)
	}
}

// P13.2: as many Members and Entries as there may be, and one more.
func TestReadHowMany(t *testing.T) {
	for _, n := range []int{0, 1, 63, 64, 65, 66, 128, 256, 320, 1000} {
		if holdRead(t, wantLaid(withMembers(members(n)...))) != (n <= 64) {
			t.Errorf("%d members", n)
		}
	}
	for _, n := range []int{0, 1, 64, 255, 256, 257, 258, 512, 600} {
		if holdRead(t, wantLaid(withEntries(entries(n)...))) != (n <= 256) {
			t.Errorf("%d entries", n)
		}
	}
}

// P13.2: packets of just so many bytes as there may be, and of more.
func TestReadOfBytes(t *testing.T) {
	for _, p := range []api.Packet{{}, full(), withMembers(members(64)...), withEntries(entries(250)...)} {
		for _, n := range []int{whole - 1, whole, whole + 1, whole + 2, 2 * whole, 1_000_000} {
			if holdRead(t, wantLaid(grown(t, p, n))) != (n <= whole) {
				t.Errorf("%d bytes", n)
			}
		}
	}
}

// P13.2: Entries that entry.Check refuses, at each place: ErrPacket, whatever its error was.
func TestReadOfWrongEntries(t *testing.T) {
	for _, l := range wrongEntries {
		for _, e := range l {
			for place := range 4 {
				l := slices.Insert(entries(4)[1:], place, e)
				holdNone(t, wantLaid(withEntries(l...)))
			}
			holdNone(t, wantLaid(withEntries(e)))
		}
	}
	// As entry.Read tells nothing of these, but goes on behind them, they are not to be taken for none at all, either.
	holdNone(t, "li0ei1ei2ei3elell0:i0ei0e0:i0eeee")
	holdNone(t, "li0ei1ei2ei3elell1:ki5ei1e1:vi4eeee")
	holdNone(t, "li0ei1ei2ei3elell1:ki5ei1e1:vi4eel1:ki5ei1e1:vi9eeee")
}

// P13.2: wrong packets and wrong Members, laid nonetheless.
func TestReadOfWrongPackets(t *testing.T) {
	for _, wrong := range wrongPackets {
		p := full()
		wrong(&p)
		holdNone(t, wantLaid(p))
	}
}

// P13.2: a part of another kind, one too few, one too many, or two that changed places, against the chapter's words.
func TestReadOfOtherParts(t *testing.T) {
	parts := fullParts()
	others := []string{"l", "e", "x", "", "le", "i5e", "i0e", "1:k", "0:", "l1:ke", "li5ee", "li0ei0ei0ee", "l1:ki0ei0e0:i0ee", "ie", ":", "5", "d", "\x00", "\xff"}
	packets := 0
	hold := func(parts []string) {
		if holdRead(t, strings.Join(parts, "")) {
			packets++
		}
	}
	for i := range parts {
		for _, part := range others {
			other := slices.Clone(parts)
			other[i] = part
			hold(other)
			hold(slices.Insert(slices.Clone(parts), i, part))
		}
		for k := range i {
			other := slices.Clone(parts)
			other[i], other[k] = other[k], other[i]
			hold(other)
			hold(slices.Delete(slices.Clone(parts), k, i))
		}
	}
	if packets < 50 {
		t.Errorf("%d packets: the parts say too little", packets)
	}
	for _, s := range []string{
		"l", "e", "x", "le", "i0e", "0:", "lle", "lelee", "li0ee", "li0ei1ei2ei3e", "li0ei1ei2ei3ee", "li0ei1ei2ei3elee", "li0ei1ei2ei3elele", "li0ei1ei2ei3elelelee", "li0ei1ei2ei3ei4elelee", "li0ei1ei2elelee", "li0ei1ei2ei3eleleei0e",
		"lleli0ei1ei2ei3elee", "li0ei1ei2ei3eleleee", "lli0ei1ei2ei3eleleee", "18:li0ei1ei2ei3elelee", "li0ei1ei2ei3e0:lee", "li0ei1ei2ei3ele0:e", "li0ei1ei2ei3eli0eelee", "li0ei1ei2ei3elleelee", "li0ei1ei2ei3elelleee", "li0ei1ei2ei3eleli0eee", "li0ei1ei2ei3el0:elee",
		"li0ei1ei2ei3elli0ei0eeelee", "li0ei1ei2ei3elli0ei0ei0ei0eeelee", "li0ei1ei2ei3elli0ei0e0:eelee", "li0ei1ei2ei3ell0:i0ei0eeelee", "li0ei1ei2ei3eli0ei0ei0eelee", "li0ei1ei2ei3elell1:ki0ei0e0:eee", "li0ei1ei2ei3elell1:ki0ei0e0:i0ei0eeee", "li0ei1ei2ei3el1:ki0ei0e0:i0eelee",
		"li0ei1ei2ei3ell1:ki5ei1e1:vi9eeelli2ei1ei3eeee", "l i0ei1ei2ei3elelee", "li0e i1ei2ei3elelee", "li0e,i1e,i2e,i3e,le,lee", "di0ei1ei2ei3elelee", "Li0ei1ei2ei3elelee",
	} {
		holdNone(t, s)
	}
}

// P13.2, P13.4: rows of parts, all of several at each place, against the chapter's words.
func TestReadWords(t *testing.T) {
	places := [][]string{
		{"l", ""},
		{"i0e", "i4e", "i5e", "i256e"},
		{"i63e", "i64e", "i00e"},
		{"i0e", "i65536e"},
		{"i1099511627776e", "i1099511627777e", "i-1e", "0:"},
		{"le", "lli1ei2ei1073741824eee", "lli1ei3ei0eee", "lli1ei0ei0eeli64ei0ei0eee", "l", "lli1ei2ei3ee", "lleee", ""},
		{"le", "ll1:ki0ei65535e0:i0eee", "ll1:ki5ei0e2:eei5eel1:ki0ei0e0:i0eee", "ll0:i0ei0e0:i0eee", "ll1:ki5ei0e0:i4eee", "ll1:ki0ei65536e0:i0eee", "l1:ke", ""},
		{"e", "", "ee", "lee"},
	}
	packets, all := 0, 0
	var grow func(s string, place int)
	grow = func(s string, place int) {
		if place == len(places) {
			all++
			if holdRead(t, s) {
				packets++
			}
			return
		}
		for _, part := range places[place] {
			grow(s+part, place+1)
		}
	}
	grow("", 0)
	if packets < 10 || all < 40_000 {
		t.Errorf("%d packets of %d rows: they say too little", packets, all)
	}
}

// P13.2, Rule 1: long rows of one part, in which Read does not go astray.
func TestReadOfLongRows(t *testing.T) {
	for _, part := range []string{"l", "e", "i", "0", "i0e", "0:", "1:k", "le", "lle", "li0ei0ei0ee", "l1:ki0ei0e0:i0ee", "li0ei0ei0ei0el", "\x00", ":", "-"} {
		for _, n := range []int{100, 1000, 1_000_000} {
			row := strings.Repeat(part, n)
			for _, s := range []string{row, "l" + row, "li0ei0ei0ei0el" + row, "li0ei0ei0ei0elel" + row, "li0ei0ei0ei0el" + row + "elee", "li0ei0ei0ei0elel" + row + "ee"} {
				holdRead(t, s)
			}
		}
	}
}

// Rule 3: the bytes stay as they are, and are not kept; no two packets that were read have anything in common.
func TestReadSharesNothing(t *testing.T) {
	room := []byte(fullBytes + "SPARE")
	b := room[:len(fullBytes)]
	first, err1 := packet.Read(b)
	second, err2 := packet.Read(b)
	if err1 != api.OK || err2 != api.OK || string(room) != fullBytes+"SPARE" {
		t.Fatalf("errors %d, %d; the bytes became %q", int(err1), int(err2), room)
	}
	clobber(b)
	l := first.Members[:cap(first.Members)]
	for i := range l {
		l[i] = api.Member{Node: 63}
	}
	entries := first.Entries[:cap(first.Entries)]
	for i := range entries {
		entries[i] = api.Entry{Key: "other"}
	}
	if !alike(second, full()) {
		t.Errorf("it became %s", show(second))
	}
	if third, err := packet.Read([]byte(fullBytes)); err != api.OK || !alike(third, full()) {
		t.Errorf("Read = %s, %d", show(third), int(err))
	}
}

// Rule 3: bytes that are refused stay as they are, too.
func TestReadChangesNothing(t *testing.T) {
	for _, s := range []string{"", "x", fullBytes + "x", fullBytes[1:], "li05ei1ei2ei3elelee", "li9ei1ei2ei3elelee", xs(whole + 1)} {
		b := []byte(s)
		if _, err := packet.Read(b); err != api.ErrPacket || string(b) != s {
			t.Errorf("Read(%s): error %d, the bytes became %s", short(s), int(err), short(string(b)))
		}
	}
}

// FuzzRead holds what Read tells of any bytes against the chapter's words.
func FuzzRead(f *testing.F) {
	f.Add([]byte(fullBytes))
	for _, p := range some() {
		if s := wantLaid(p); len(s) < 200 {
			f.Add([]byte(s))
		}
	}
	f.Add([]byte("li0ei1ei2ei3eleleex"))
	f.Fuzz(func(t *testing.T, b []byte) { holdRead(t, string(b)) })
}
