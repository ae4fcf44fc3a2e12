package silence_test

import (
	"math"
	"slices"
	"strings"
	"testing"

	"watchfire/api"
	"watchfire/silence"
)

// laid tells the right silence's entry with other bytes.
func laid(value string) api.Entry {
	return api.Entry{Key: "sx", Time: 3, Origin: 4, Value: value, Until: 9}
}

// holdNone holds that an entry has no silence.
func holdNone(t *testing.T, e api.Entry) {
	t.Helper()
	if s, ok := silence.Of(e); ok || !isZero(s) {
		t.Errorf("Of(%s) = %s, %v", showEntry(e), show(s), ok)
	}
	if s, ok := wantOf(e); ok {
		t.Errorf("Of(%s), by words: %s", showEntry(e), show(s))
	}
}

// P11.3: bytes and what they tell, written out.
func TestOf(t *testing.T) {
	for _, try := range []struct {
		e    api.Entry
		want api.Silence
	}{
		{laid("l1:ai0e1:1i2ei9ee"), right()},
		{api.Entry{Key: "ssx", Time: 9, Value: "l1:ai0e1:1i2ei9ee", Until: 9}, named("sx")},
		{api.Entry{Key: "ss", Time: 10, Value: "l1:ai0e1:1i2ei9ee", Until: 10}, named("s")},
		{laid("l1:ai1e1:1i2ei9ee"), asks(is("a", api.IsNot, "1"))},
		{laid("l1:ai0e0:i2ei9ee"), asks(is("a", api.Is, ""))},
		{laid("l1:bi3e1:x1:ai2e3:1|2i2ei9ee"), asks(is("b", api.NotLike, "x"), is("a", api.Like, "1|2"))},
		{laid("l1:ii0e7:i2ei9ee1:ei0e1:li2ei9ee"), asks(is("i", api.Is, "i2ei9ee"), is("e", api.Is, "l"))},
		{api.Entry{Key: "sx", Value: "l1:ai0e1:1i0ei0ee"}, lasts(0, 0)},
		{api.Entry{Key: "sx", Time: most, Origin: 65535, Value: "l1:ai0e1:1i0ei0ee", Until: most}, lasts(0, 0)},
		{api.Entry{Key: "sx", Value: "l1:ai0e1:1i1099511627776ei1099511627776ee", Until: most}, lasts(most, most)},
	} {
		if got, ok := silence.Of(try.e); !ok || !equal(got, try.want) {
			t.Errorf("Of(%s) = %s, %v, not %s", showEntry(try.e), show(got), ok, show(try.want))
		}
	}
}

// P11.3, P11.5: of what Entry tells the silence is told again as it was, at whatever time and by whichever node.
func TestOfEntry(t *testing.T) {
	for _, s := range some() {
		for _, time := range []int{0, 1, s.Start, max(s.End-1, 0), s.End, min(s.End+1, most), most} {
			for _, origin := range []uint16{0, 1, 256, 65535} {
				e := tell(t, s, time, origin)
				if got, ok := silence.Of(e); !ok || !equal(got, s) || !silence.Same(got, s) {
					t.Errorf("Of(%s) = %s, %v, not %s", showEntry(e), show(got), ok, show(s))
				}
				holdOf(t, e)
			}
		}
	}
}

// P11.3: keys that tell no silence: without an s ahead, or with no name behind it; and those that tell another one.
func TestOfOtherKeys(t *testing.T) {
	e := laid("l1:ai0e1:1i2ei9ee")
	for _, key := range []string{
		"", "s", "x", "k", "S", "Sx", "xs", " sx", "s x", "sx ", "s1", "s1x", "sX", "s-", "s\x00", "sx\x00", "\x00sx", "s\u00e4", "tx", "n", "nx", "nl1:r1:ge",
		"s" + strings.Repeat("x", 17), strings.Repeat("s", 18), strings.Repeat("x", 16), "s" + strings.Repeat("x", 1_000_000),
	} {
		e.Key = key
		holdNone(t, e)
	}
	for _, id := range []string{"y", "s", "ss", "_", "x1", strings.Repeat("s", 16), strings.Repeat("x", 16)} {
		e.Key = "s" + id
		if s, ok := silence.Of(e); !ok || !equal(s, named(id)) {
			t.Errorf("Of(%s) = %s, %v", showEntry(e), show(s), ok)
		}
	}
	for b := range 256 {
		e.Key = string([]byte{byte(b), 'x'})
		if holdOf(t, e) != (b == 's') {
			t.Errorf("the key %q", e.Key)
		}
	}
}

// P11.3: Until is the greater one of End and Time, and nothing else.
func TestOfOtherUntils(t *testing.T) {
	for _, s := range []api.Silence{right(), lasts(0, 0), lasts(0, most), lasts(most, most)} {
		for _, time := range []int{0, 3, 9, 10, most} {
			e := tell(t, s, time, 4)
			right := e.Until
			for _, until := range []int{right - 1, right + 1, 0, -1, 1, 2, 3, 8, 9, 10, s.Start, s.End, time, most, most + 1, right + 1<<32, -right, math.MinInt, math.MaxInt} {
				e.Until = until
				if until != right {
					holdNone(t, e)
				} else if !holdOf(t, e) {
					t.Errorf("Of(%s) is none", showEntry(e))
				}
			}
		}
	}
}

// P11.3: another Time or Origin may be told by Entry, too, as far as it is one, and Until goes with it.
func TestOfOtherTimes(t *testing.T) {
	e := laid("l1:ai0e1:1i2ei9ee")
	for _, time := range []int{0, 1, 2, 3, 8, 9} {
		for _, origin := range []uint16{0, 5, 65535} {
			e.Time, e.Origin = time, origin
			if !holdOf(t, e) {
				t.Errorf("Of(%s) is none", showEntry(e))
			}
		}
	}
	for _, time := range []int{-1, -9, 10, 11, most, most + 1, math.MinInt, math.MaxInt} {
		e.Time = time
		e.Until = 9
		holdNone(t, e)
		e.Until = time
		if time < 0 || time > most {
			holdNone(t, e)
		} else if !holdOf(t, e) {
			t.Errorf("Of(%s) is none", showEntry(e))
		}
	}
}

// P11.3: bytes that go on behind the list.
func TestOfBytesBehind(t *testing.T) {
	for _, behind := range []string{"e", "l", "x", "\x00", " ", "i2e", "0:", "le", "l1:ai0e1:1i2ei9ee", strings.Repeat("e", 10_000)} {
		for _, s := range some() {
			e := tell(t, s, 3, 4)
			e.Value += behind
			holdNone(t, e)
		}
	}
}

// P11.3: bytes that are cut, at each place, at their end or at their beginning.
func TestOfCut(t *testing.T) {
	for _, s := range some() {
		e := tell(t, s, 3, 4)
		value := e.Value
		for i := range value {
			e.Value = value[:i]
			holdNone(t, e)
			if i > 0 {
				e.Value = value[i:]
				holdNone(t, e)
			}
		}
	}
}

// P11.3: silences that may not be, laid right.
func TestOfWhatMayNotBe(t *testing.T) {
	tries := []api.Silence{asks(), asks(many(9)...), asks(many(100)...), lasts(-1, 9), lasts(10, 9), lasts(9, 2), lasts(2, -1), lasts(2, most+1), lasts(most+1, most+1), lasts(math.MinInt, 9), lasts(2, math.MaxInt)}
	for _, wrong := range wrongs {
		tries = append(tries, asks(wrong.m), asks(append(many(7), wrong.m)...), asks(append([]api.Matcher{wrong.m}, many(1)...)...))
	}
	for _, s := range tries {
		for _, time := range []int{0, 3, most} {
			for _, until := range []int{9, s.End, time, max(s.End, time)} {
				holdNone(t, api.Entry{Key: "sx", Time: time, Origin: 4, Value: wantValue(s), Until: until})
			}
		}
	}
}

// P11.3: numbers that are no Op are not cut down to one.
func TestOfNoOps(t *testing.T) {
	for _, op := range []string{"0", "1", "2", "3"} {
		if e := laid("l1:ai" + op + "e1:1i2ei9ee"); !holdOf(t, e) {
			t.Errorf("Of(%s) is none", showEntry(e))
		}
	}
	for _, op := range []string{"4", "5", "255", "256", "257", "258", "259", "512", "-1", "-253", "-254", "-255", "-256", "65536", "4294967296", "4294967297", "72057594037927936", "9223372036854775552", "-9223372036854775808", "9223372036854775807", "18446744073709551616", "18446744073709551617", "00", "01", "+1", "-0", "", " 1", "1 ", "1.0", "x"} {
		holdNone(t, laid("l1:ai"+op+"e1:1i2ei9ee"))
		holdNone(t, laid("l1:ai0e1:11:bi"+op+"e1:1i2ei9ee"))
	}
}

// P11.3: numbers and lengths that are spelled otherwise.
func TestOfOtherSpellings(t *testing.T) {
	for _, value := range []string{
		"l1:ai0e1:1i02ei9ee", "l1:ai0e1:1i2ei09ee", "l1:ai0e1:1i+2ei9ee", "l1:ai0e1:1i2ei+9ee", "l1:ai0e1:1i-2ei9ee", "l1:ai0e1:1i 2ei9ee", "l1:ai0e1:1i2 ei9ee", "l1:ai0e1:1i2.0ei9ee",
		"l01:ai0e1:1i2ei9ee", "l1:ai0e01:1i2ei9ee", "l+1:ai0e1:1i2ei9ee", "l1:ai0e-1:1i2ei9ee", "l1:ai0e1:1ii2ei9ee", "l1:ai0e1:1ie2i9ee", "l1:ai0e1:1iei9ee", "l1:ai0e1:1i2eiee",
		"l1:ai0e1:1i18446744073709551618ei9ee", "l1:ai0e1:1i2ei18446744073709551625ee", "l1:ai0e1:1i-18446744073709551614ei9ee", "l1:ai0e1:1i2ei4294967305ee", "l1:ai0e1:1i4294967298ei9ee",
		"l1:ai0e1:1i" + strings.Repeat("0", 20) + "2ei9ee", "l1:ai0e1:1i0x2ei9ee", "l1:ai0e1:1i2ei0_9ee", "l1:ai0e1:1i-0ei9ee", "l1:ai0e1:1i00ei9ee",
		"l2:ai0e1:1i2ei9ee", "l0:ai0e1:1i2ei9ee", "l1:ai0e2:1i2ei9ee", "l1:ai0e0:1i2ei9ee", "l1000000000:ai0e1:1i2ei9ee", "l1:ai0e99999999999:1i2ei9ee",
	} {
		holdNone(t, laid(value))
	}
	e := api.Entry{Key: "sx", Value: "l1:ai0e1:1i-0ei-0ee"}
	holdNone(t, e)
}

// P11.3: lists with other parts: of another kind, too few, too many, or in another order.
func TestOfOtherParts(t *testing.T) {
	for _, value := range []string{
		"", "l", "e", "le", "x", "i2e", "0:", "li2ei9ee", "li9ee", "l1:ae", "l1:ai0ee", "l1:ai0e1:1e", "l1:ai0e1:1i2ee", "l1:ai0e1:1i2ei9ei9ee", "l1:ai0e1:1i2ei9e1:xe", "l1:ai0e1:1i2ei9elee",
		"1:ai0e1:1i2ei9e", "i1:ai0e1:1i2ei9ee", "ll1:ai0e1:1i2ei9eee", "ll1:ai0e1:1ei2ei9ee", "lll1:ai0e1:1eei2ei9ee", "l1:al0ee1:1i2ei9ee", "l1:a1:01:1i2ei9ee", "li0ei0e1:1i2ei9ee", "l1:ai0ei1ei2ei9ee",
		"l1:ai0e1:11:2i9ee", "l1:ai0e1:1i2e1:9e", "li2e1:ai0e1:1i9ee", "li2ei9e1:ai0e1:1e", "l1:ai0e1:1i2e1:bi0e1:1i9ee", "l1:a1:1i0ei2ei9ee", "li0e1:a1:1i2ei9ee", "l1:ai0e1:11:bi2ei9ee", "l1:ai0e1:11:bi0ei2ei9ee", "l1:ai0e1:11:b1:1i2ei9ee",
		"L1:ai0e1:1i2ei9ee", "l1:aI0e1:1i2ei9ee", "l1:ai0E1:1i2ei9ee", " l1:ai0e1:1i2ei9ee", "l 1:ai0e1:1i2ei9ee", "l1:ai0e1:1 i2ei9ee", "l1:ai0e1:1i2ei9e", "l1:ai0e1:1i2ei9ex",
	} {
		holdNone(t, laid(value))
		holdNone(t, api.Entry{Key: "sx", Value: value})
	}
}

// P11.3: bytes of entries that tell something else, and very long ones.
func TestOfOtherEntries(t *testing.T) {
	holdNone(t, api.Entry{})
	holdNone(t, api.Entry{Key: "k"})
	holdNone(t, api.Entry{Key: "sx"})
	holdNone(t, api.Entry{Key: "nl1:r1:ge", Time: 3, Value: "l8:l1:a1:1ei1ee", Until: 9})
	holdNone(t, api.Entry{Key: "nl1:r1:ge", Time: 3, Value: "l1:ai0e1:1i2ei9ee", Until: 9})
	for _, part := range []string{"l", "e", "i", "1", "1:", "\x00", "1:ai0e1:1", "i2e", "l1:ai0e1:1i2ei9ee"} {
		holdNone(t, laid(strings.Repeat(part, 100_000)))
		holdNone(t, laid("l"+strings.Repeat(part, 100_000)+"i2ei9ee"))
		holdNone(t, laid("l1:ai0e1:1"+strings.Repeat(part, 100_000)))
	}
}

// P11.3: right bytes with each byte changed, left out, or put in ahead of it, against the chapter's words.
func TestOfChanged(t *testing.T) {
	silences := 0
	for _, s := range []api.Silence{right(), asks(is("ie", api.Like, "1|2"), is("l1", api.NotLike, "e0:"))} {
		e := tell(t, s, 3, 4)
		value := []byte(e.Value)
		hold := func(b []byte) {
			e.Value = string(b)
			if holdOf(t, e) {
				silences++
			}
		}
		for i := range value {
			for c := range 256 {
				other := slices.Clone(value)
				other[i] = byte(c)
				hold(other)
				hold(slices.Insert(slices.Clone(value), i, byte(c)))
			}
			hold(slices.Delete(slices.Clone(value), i, i+1))
		}
	}
	if silences < 500 {
		t.Errorf("%d silences: the changes say too little", silences)
	}
}

// P11.3: rows of parts, all of several at each place, against the chapter's words.
func TestOfWords(t *testing.T) {
	places := [][]string{
		{"l", ""},
		{"1:a", "1:A", "0:", "i0e", ""},
		{"i0e", "i2e", "i4e", "i256e", "i-1e", ""},
		{"1:1", "1:(", "0:", "i1e"},
		{"", "1:bi1e0:", "1:bi3e1:(", "1:b", strings.Repeat("1:ci0e1:3", 7), strings.Repeat("1:ci0e1:3", 8)},
		{"i0e", "i9e", "i10e", "i-1e", "i02e", "1:2", ""},
		{"i9e", "i8e", "i1099511627776e", "i1099511627777e", "i-9e", "1:9", ""},
		{"e", "", "ee", "i9ee"},
	}
	silences, all := 0, 0
	var grow func(s string, place int)
	grow = func(s string, place int) {
		if place < len(places) {
			for _, part := range places[place] {
				grow(s+part, place+1)
			}
			return
		}
		all++
		for _, until := range []int{9, most} {
			e := laid(s)
			e.Until = until
			if holdOf(t, e) {
				silences++
			}
		}
	}
	grow("", 0)
	if silences < 50 || all < 50_000 {
		t.Errorf("%d silences of %d rows: they say too little", silences, all)
	}
}

// P11.3, rule 3: no two answers share memory, the spare room with it.
func TestOfIsNew(t *testing.T) {
	e := tell(t, asks(is("a", api.Is, "1"), is("b", api.Is, "2"), is("c", api.Is, "3")), 3, 4)
	first, _ := silence.Of(e)
	second, _ := silence.Of(e)
	spoil(first)
	if third, ok := silence.Of(e); !ok || !equal(second, third) || second.Matchers[0] != is("a", api.Is, "1") {
		t.Errorf("%s, then %s, %v", show(second), show(third), ok)
	}
}

// spoil writes over a silence's matchers, and over their spare room.
func spoil(s api.Silence) {
	l := s.Matchers[:cap(s.Matchers)]
	for i := range l {
		l[i] = is("z", api.NotLike, "spoiled")
	}
}

// FuzzOf holds what Of tells of any entry against the chapter's words.
func FuzzOf(f *testing.F) {
	f.Add("sx", 3, uint16(4), "l1:ai0e1:1i2ei9ee", 9)
	f.Add("ssx", 10, uint16(0), "l1:bi3e1:x1:ai2e3:1|2i2ei9ee", 10)
	f.Add("nl1:r1:ge", 3, uint16(4), "l8:l1:a1:1ei1ee", 9)
	f.Fuzz(func(t *testing.T, key string, time int, origin uint16, value string, until int) {
		holdOf(t, api.Entry{Key: key, Time: time, Origin: origin, Value: value, Until: until})
		// Most entries fail by their Until: so it is asked with those that might be, too.
		if s, ok := wantOf(api.Entry{Key: "sx", Value: value, Until: until}); ok {
			holdOf(t, api.Entry{Key: key, Time: time, Origin: origin, Value: value, Until: max(s.End, time)})
		}
	})
}
