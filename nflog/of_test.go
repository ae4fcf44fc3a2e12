package nflog_test

import (
	"math"
	"slices"
	"strings"
	"testing"

	"watchfire/api"
	"watchfire/nflog"
)

// keyed tells the right sending's entry with another key.
func keyed(key string) api.Entry {
	return api.Entry{Key: key, Time: 5, Origin: 1, Value: fire, Until: 105}
}

// P12.3: entries and what they tell, written out.
func TestOf(t *testing.T) {
	for _, try := range []struct {
		e    api.Entry
		want api.Send
	}{
		{keyed("nl1:r1:ge"), right()},
		{keyed("nl1:g1:re"), to("g", "r")},
		{keyed("nl4:page13:li0e3:job1:xee"), to("page", "li0e3:job1:xe")},
		{keyed("nl1:e1:ee"), to("e", "e")},
		{keyed("nl2:\x00\xff2:\n e"), to("\x00\xff", "\n ")},
		{keyed("nl5:r1:ge1:ge"), to("r1:ge", "g")},
		{keyed("nl10:xxxxxxxxxx1:ge"), to(xs(10), "g")},
		{api.Entry{Key: "nl1:r1:ge"}, api.Send{Receiver: "r", Key: "g"}},
		{api.Entry{Key: "nl1:r1:ge", Time: most, Origin: 65535, Value: "no revision", Until: most}, api.Send{Receiver: "r", Key: "g", Revision: "no revision", At: most}},
		{api.Entry{Key: "nl1:r1:ge", Until: most}, api.Send{Receiver: "r", Key: "g"}},
	} {
		if got, ok := nflog.Of(try.e); !ok || got != try.want {
			t.Errorf("Of(%s) = %s, %v, not %s", showEntry(try.e), show(got), ok, show(try.want))
		}
		holdOf(t, try.e)
	}
}

// P12.3: of what Entry tells the sending is told again as it was, whoever sent it, and however long it is kept.
func TestOfEntry(t *testing.T) {
	for _, s := range some() {
		for _, keep := range []int{0, 1, 100, most - s.At - 1, most - s.At} {
			for _, origin := range []uint16{0, 1, 256, 65535} {
				e, err := nflog.Entry(s, origin, keep)
				if err != api.OK {
					continue
				}
				if got, ok := nflog.Of(e); !ok || got != s {
					t.Errorf("Of(%s) = %s, %v, not %s", showEntry(e), show(got), ok, show(s))
				}
				holdOf(t, e)
			}
		}
	}
}

// P12.3: keys with no n ahead, the empty one, and those that tell something else.
func TestOfOtherKeys(t *testing.T) {
	holdNone(t, api.Entry{})
	for _, key := range []string{
		"", "n", "l", "e", "k", "sx", "s", "N", "nn", "nx", "nl", "ne", "nle", "l1:r1:ge", "Nl1:r1:ge", "sl1:r1:ge", " nl1:r1:ge", "n l1:r1:ge", "nnl1:r1:ge", "\x00nl1:r1:ge", "nL1:r1:ge", "n1:r1:g", "n1:r1:ge",
		"xl1:r1:ge", "ml1:r1:ge", "ol1:r1:ge", "r", "r1:g", "nr", "n1:r", "n\x00", "\u00f1l1:r1:ge",
	} {
		holdNone(t, keyed(key))
		holdNone(t, api.Entry{Key: key})
	}
	for b := range 256 {
		key := string([]byte{byte(b)}) + "l1:r1:ge"
		if holdOf(t, keyed(key)) != (b == 'n') {
			t.Errorf("the key %q", key)
		}
	}
}

// P12.3: keys that go on behind the list.
func TestOfBytesBehind(t *testing.T) {
	for _, behind := range []string{"e", "l", "n", "x", "\x00", " ", "i0e", "0:", "1:x", "le", "l1:r1:ge", "nl1:r1:ge", xs(2000)} {
		for _, s := range some() {
			e := tell(t, s, 1, 0)
			e.Key += behind
			holdNone(t, e)
		}
	}
}

// P12.3: keys that are cut, at each place, at their end or at their beginning.
func TestOfCut(t *testing.T) {
	for _, s := range some() {
		e := tell(t, s, 1, 0)
		key := e.Key
		for i := range key {
			e.Key = key[:i]
			holdNone(t, e)
			if i > 0 {
				e.Key = key[i:]
				holdNone(t, e)
			}
		}
	}
}

// P12.3: numbers that are spelled otherwise.
func TestOfOtherSpellings(t *testing.T) {
	for _, key := range []string{
		"nl01:r1:ge", "nl1:r01:ge", "nl001:r1:ge", "nl+1:r1:ge", "nl1:r+1:ge", "nl-1:r1:ge", "nl1:r-1:ge", "nl 1:r1:ge", "nl1:r 1:ge", "nl1 :r1:ge", "nl1:r1 :ge", "nl1.0:r1:ge", "nl0x1:r1:ge", "nl1:r0x1:ge", "nl1_:r1:ge", "nl:r1:ge", "nl1:r:ge",
		"nl0:r1:ge", "nl1:r0:ge", "nl2:r1:ge", "nl1:r2:ge", "nl3:r1:ge", "nl1:r3:ge", "nl-0:1:ge", "nl1:r-0:e", "nl00:1:ge", "nl1:r00:e",
		"nl4294967297:r1:ge", "nl1:r4294967297:ge", "nl18446744073709551617:r1:ge", "nl1:r18446744073709551617:ge", "nl-18446744073709551615:r1:ge", "nl1000000000:r1:ge", "nl1:r1000000001:ge", "nl99999999999:r1:ge",
		"nl" + strings.Repeat("0", 20) + "1:r1:ge", "nl1:r" + strings.Repeat("0", 20) + "1:ge", "nl" + strings.Repeat("9", 900) + ":r1:ge", "nl\u0661:r1:ge",
	} {
		holdNone(t, keyed(key))
	}
}

// P12.3: lists with other parts: of another kind, too few, too many, or empty.
func TestOfOtherParts(t *testing.T) {
	for _, key := range []string{
		"nle", "nl1:re", "nl1:r1:g1:xe", "nl1:r1:g0:e", "nl0:1:r1:ge", "nl1:r0:1:ge", "nl1:r1:gi0ee", "nl1:r1:glee", "nl1:rlee", "nlle1:ge", "nli1e1:ge", "nl1:ri1ee", "nli1ei1ee", "nlleee", "nll1:r1:gee", "nll1:re1:ge", "nl1:rl1:gee",
		"nl0:0:e", "nl0:1:ge", "nl1:r0:e", "nl9:nl1:r1:gee", "ni1e1:r1:ge", "nd1:r1:ge", "n9:l1:r1:ge", "nl1:r1:gl", "nl1:r1:gx", "nl1:r1:g:", "nl1;r1:ge", "nl1:r1;ge", "nl1:r,1:ge", "nl1:r 1:ge",
	} {
		holdNone(t, keyed(key))
		holdNone(t, api.Entry{Key: key})
	}
}

// P12.3: an Until below Time, or above the highest time; a Time below 0, or above it.
func TestOfOtherTimes(t *testing.T) {
	e := keyed("nl1:r1:ge")
	for _, until := range []int{5, 6, 105, 106, 1 << 32, most - 1, most} {
		if e.Until = until; !holdOf(t, e) {
			t.Errorf("Of(%s) is none", showEntry(e))
		}
	}
	for _, until := range []int{4, 3, 0, -1, -5, most + 1, most + 5, most + 6, 1 << 62, math.MinInt, math.MinInt + 4, math.MinInt + 5, math.MinInt + 6, math.MaxInt} {
		e.Until = until
		holdNone(t, e)
	}
	for _, time := range []int{-1, -2, -100, -most, math.MinInt, most + 1, most + 2, math.MaxInt} {
		for _, until := range []int{time, 0, 5, most, math.MinInt, math.MaxInt} {
			e.Time, e.Until = time, until
			holdNone(t, e)
		}
	}
	sendings := 0
	for _, time := range edges {
		for _, until := range edges {
			e.Time, e.Until = time, until
			if holdOf(t, e) {
				sendings++
			}
		}
	}
	if sendings < 50 {
		t.Errorf("%d sendings: the times say too little", sendings)
	}
}

// P12.3: a Value, or a Key, that is as long as it may be, and one that is too long.
func TestOfLong(t *testing.T) {
	e := keyed("nl1:r1:ge")
	for _, n := range []int{0, 1, 8191, 8192} {
		if e.Value = xs(n); !holdOf(t, e) {
			t.Errorf("Of(%s) is none", showEntry(e))
		}
	}
	for _, n := range []int{8193, 8194, 1_000_000} {
		e.Value = xs(n)
		holdNone(t, e)
	}
	for _, s := range []api.Send{to("r", xs(1013)), to(xs(1013), "g"), to(xs(500), xs(513))} {
		if !holdOf(t, keyed(wantKey(s.Receiver, s.Key))) {
			t.Errorf("%s is none", show(s))
		}
		for _, more := range []int{1, 2, 11, 12, 1000, 1_000_000} {
			holdNone(t, keyed(wantKey(s.Receiver+xs(more), s.Key)))
			holdNone(t, keyed(wantKey(s.Receiver, s.Key+xs(more))))
		}
	}
	for _, part := range []string{"n", "l", "e", "1", "1:", "1:r", "\x00", "nl1:r1:ge"} {
		holdNone(t, keyed(strings.Repeat(part, 100_000)))
		holdNone(t, keyed("nl"+strings.Repeat(part, 100_000)))
		holdNone(t, keyed("nl1:r"+strings.Repeat(part, 100_000)+"e"))
	}
}

// P12.3: another Origin, or another Value, may be told by Entry, too.
func TestOfOtherOrigins(t *testing.T) {
	e := keyed("nl1:r1:ge")
	for origin := range 1 << 16 {
		e.Origin = uint16(origin)
		if s, ok := nflog.Of(e); !ok || s != right() {
			t.Errorf("Of(%s) = %s, %v", showEntry(e), show(s), ok)
		}
	}
	for _, value := range []string{"", calm, both, wrong, "nl1:r1:ge", "\x00"} {
		e.Value = value
		if s, ok := nflog.Of(e); !ok || s != says(value) {
			t.Errorf("Of(%s) = %s, %v", showEntry(e), show(s), ok)
		}
	}
}

// P12.3: right keys with each byte changed, left out, or put in ahead of it, against the chapter's words.
func TestOfChanged(t *testing.T) {
	sendings := 0
	for _, s := range []api.Send{right(), to("r1:ge", "li0e1:a1:1e"), to(xs(10), "1:g1:ge")} {
		key := []byte(wantKey(s.Receiver, s.Key))
		hold := func(b []byte) {
			if holdOf(t, keyed(string(b))) {
				sendings++
			}
		}
		for i := range key {
			for c := range 256 {
				other := slices.Clone(key)
				other[i] = byte(c)
				hold(other)
				hold(slices.Insert(slices.Clone(key), i, byte(c)))
			}
			hold(slices.Delete(slices.Clone(key), i, i+1))
		}
	}
	if sendings < 5000 {
		t.Errorf("%d sendings: the changes say too little", sendings)
	}
}

// P12.3: rows of parts, all of several at each place, against the chapter's words.
func TestOfWords(t *testing.T) {
	places := [][]string{
		{"n", "", "s", "N", "nn"},
		{"l", "", "i", "ll"},
		{"1:r", "2:1:", "0:", "01:r", "i1e", "le", "2:r", ""},
		{"1:g", "3:ree", "0:", "1:e", "+1:g", "i1e", "9:g", ""},
		{"e", "", "ee", "1:xe", "i1ee", "x"},
	}
	values := []string{"", fire, calm, "x", xs(8192), xs(8193)}
	times := [][2]int{{5, 105}, {0, 0}, {most, most}, {5, 4}, {-1, 5}, {5, most + 1}}
	sendings, all := 0, 0
	var grow func(s string, place int)
	grow = func(s string, place int) {
		if place < len(places) {
			for _, part := range places[place] {
				grow(s+part, place+1)
			}
			return
		}
		for _, value := range values {
			for _, time := range times {
				all++
				if holdOf(t, api.Entry{Key: s, Time: time[0], Origin: 9, Value: value, Until: time[1]}) {
					sendings++
				}
			}
		}
	}
	grow("", 0)
	if sendings < 100 || all < 100_000 {
		t.Errorf("%d sendings of %d rows: they say too little", sendings, all)
	}
}

// FuzzOf holds what Of tells of any entry against the chapter's words.
func FuzzOf(f *testing.F) {
	f.Add("nl1:r1:ge", 5, uint16(1), fire, 105)
	f.Add("nl4:page13:li0e3:job1:xee", 0, uint16(0), "", most)
	f.Add("sx", 3, uint16(4), "l1:ai0e1:1i2ei9ee", 9)
	f.Fuzz(func(t *testing.T, key string, time int, origin uint16, value string, until int) {
		holdOf(t, api.Entry{Key: key, Time: time, Origin: origin, Value: value, Until: until})
		// Most entries fail by their times: so they are asked with right ones, too.
		holdOf(t, api.Entry{Key: key, Time: 5, Origin: origin, Value: value, Until: 105})
	})
}
