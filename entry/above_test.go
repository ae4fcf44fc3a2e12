package entry_test

import (
	"math"
	"strings"
	"testing"

	"watchfire/api"
	"watchfire/entry"
)

// wrote tells an entry of the key k.
func wrote(time int, origin uint16, value string, until int) api.Entry {
	return api.Entry{Key: "k", Time: time, Origin: origin, Value: value, Until: until}
}

// holdAbove holds a above b, by Above, by Later and by the chapter's words, whichever of them is asked first.
func holdAbove(t *testing.T, a, b api.Entry) {
	t.Helper()
	if !entry.Above(a, b) || entry.Above(b, a) {
		t.Errorf("Above(%s, %s) = %v, and turned round %v", show(a), show(b), entry.Above(a, b), entry.Above(b, a))
	}
	if !wantAbove(a, b) || wantAbove(b, a) {
		t.Errorf("Above(%s, %s), by words: %v, and turned round %v", show(a), show(b), wantAbove(a, b), wantAbove(b, a))
	}
	if one, other := entry.Later(a, b), entry.Later(b, a); one != a || other != a {
		t.Errorf("Later(%s, %s) = %s, and turned round %s", show(a), show(b), show(one), show(other))
	}
}

// P9.2: entries that differ in just one field.
func TestAboveByOneField(t *testing.T) {
	holdAbove(t, wrote(6, 1, "v", 9), wrote(5, 1, "v", 9))
	holdAbove(t, wrote(5, 1, "v", 9), wrote(5, 0, "v", 9))
	holdAbove(t, wrote(5, 1, "w", 9), wrote(5, 1, "v", 9))
	holdAbove(t, wrote(5, 1, "v", 10), wrote(5, 1, "v", 9))
	numbers := []int{math.MinInt, -1 << 32, -2, -1, 0, 1, 2, 9, 10, 255, 256, 65535, 65536, 1 << 31, 1 << 32, 1<<32 + 1, 1 << 40, 1<<40 + 1, math.MaxInt - 1, math.MaxInt}
	for i, high := range numbers {
		for _, low := range numbers[:i] {
			holdAbove(t, wrote(high, 1, "v", 9), wrote(low, 1, "v", 9))
			holdAbove(t, wrote(5, 1, "v", high), wrote(5, 1, "v", low))
		}
	}
	origins := []uint16{0, 1, 2, 9, 10, 127, 128, 255, 256, 257, 32767, 32768, 65534, 65535}
	for i, high := range origins {
		for _, low := range origins[:i] {
			holdAbove(t, wrote(5, high, "v", 9), wrote(5, low, "v", 9))
		}
	}
}

// P9.2: values byte by byte: no byte is a letter or a sign, and a beginning is below what is longer.
func TestAboveByValue(t *testing.T) {
	long := strings.Repeat("v", 8192)
	values := []string{
		"", "\x00", "\x00\x00", "\x00\xff", "\x01", "0", "1", "10", "100", "11", "2", "9", "A", "B", "Z", "a", "a\x00", "aa", "aaa", "ab", "abc", "ac", "b",
		"ba", long[:8191], long, long + "v", long + "w", long[:8190] + "w", "w", "\x7f", "\x80", "\xc3", "\xc3\x28", "\xc3\xa4", "\xef\xbf\xbd", "\xf0\x9f\x98\x80", "\xff", "\xff\x00", "\xff\xff",
	}
	for i, high := range values {
		for _, low := range values[:i] {
			holdAbove(t, wrote(5, 1, high, 9), wrote(5, 1, low, 9))
		}
	}
	for high := range 256 {
		for low := range high {
			holdAbove(t, wrote(5, 1, string([]byte{byte(high)}), 9), wrote(5, 1, string([]byte{byte(low), 255}), 9))
		}
	}
}

// P9.2: the first field that differs counts, however the others point.
func TestAboveByTheFirstThatDiffers(t *testing.T) {
	holdAbove(t, wrote(6, 0, "", 6), wrote(5, 65535, "w", 99))
	holdAbove(t, wrote(6, 0, "w", 99), wrote(5, 1, "v", 9))
	holdAbove(t, wrote(6, 1, "u", 99), wrote(5, 1, "v", 9))
	holdAbove(t, wrote(6, 1, "v", 8), wrote(5, 1, "v", 9))
	holdAbove(t, wrote(5, 2, "", 5), wrote(5, 1, "w", 99))
	holdAbove(t, wrote(5, 2, "v", 8), wrote(5, 1, "v", 9))
	holdAbove(t, wrote(5, 2, "u", 9), wrote(5, 1, "v", 9))
	holdAbove(t, wrote(5, 1, "w", 5), wrote(5, 1, "v", 99))
	holdAbove(t, wrote(5, 1, "va", 5), wrote(5, 1, "v", 99))
	holdAbove(t, wrote(math.MaxInt, 0, "", math.MinInt), wrote(math.MinInt, 65535, "\xff", math.MaxInt))
}

// P9.2: of two that are alike neither is above, and Later tells what both are.
func TestAboveOfAlike(t *testing.T) {
	for _, e := range append(grid(), api.Entry{}, right(), keyOf(1025), valueOf(8193), lasts(-1, -2), lasts(math.MaxInt, math.MinInt)) {
		again := e
		again.Value = strings.Clone(e.Value)
		if entry.Above(e, again) {
			t.Errorf("%s is above itself", show(e))
		}
		if got := entry.Later(e, again); got != e {
			t.Errorf("Later of %s twice = %s", show(e), show(got))
		}
	}
}

// P9.2: Key is not asked, so of two that are alike but for it, Later tells the second one; it tells entries that may not be, too.
func TestAboveAsksNoKey(t *testing.T) {
	keys := []string{"", "a", "k", "z", strings.Repeat("z", 2000)}
	for _, one := range keys {
		for _, other := range keys {
			a, b := right(), right()
			a.Key, b.Key = one, other
			if entry.Above(a, b) || entry.Later(a, b) != b {
				t.Errorf("of the keys %s, %s: Above %v, Later %s", short(one), short(other), entry.Above(a, b), short(entry.Later(a, b).Key))
			}
			b.Time++
			holdAbove(t, b, a)
		}
	}
}

// P9.2: each two of the grid, against the chapter's words.
func TestAboveWords(t *testing.T) {
	for _, a := range grid() {
		for _, b := range grid() {
			want := wantAbove(a, b)
			if got := entry.Above(a, b); got != want {
				t.Fatalf("Above(%s, %s) = %v", show(a), show(b), got)
			}
			later := b
			if want {
				later = a
			}
			if got := entry.Later(a, b); got != later {
				t.Fatalf("Later(%s, %s) = %s", show(a), show(b), show(got))
			}
		}
	}
}

// P9.5: of unlike entries of one key just one is above, so Later does not hang on the order.
func TestOneIsAbove(t *testing.T) {
	for _, a := range grid() {
		for _, b := range grid() {
			if over, under := entry.Above(a, b), entry.Above(b, a); over && under || (a != b) != (over || under) {
				t.Fatalf("%s and %s: above %v, below %v", show(a), show(b), over, under)
			}
			if one, other := entry.Later(a, b), entry.Later(b, a); one != other {
				t.Fatalf("Later of %s and %s is %s, or %s", show(a), show(b), show(one), show(other))
			}
		}
	}
}

// P9.5: what is above what is above is above, so Later of three does not hang on the order, either.
func TestWhatIsAboveWhatIsAbove(t *testing.T) {
	l := smallGrid()
	for _, a := range l {
		for _, b := range l {
			for _, c := range l {
				if entry.Above(a, b) && entry.Above(b, c) && !entry.Above(a, c) {
					t.Fatalf("%s is above %s, and that above %s", show(a), show(b), show(c))
				}
				if one, other := entry.Later(entry.Later(a, b), c), entry.Later(a, entry.Later(b, c)); one != other {
					t.Fatalf("Later of %s, %s and %s is %s, or %s", show(a), show(b), show(c), show(one), show(other))
				}
			}
		}
	}
}

// FuzzAbove holds any two entries against the chapter's words, and P9.5 where they have one key.
func FuzzAbove(f *testing.F) {
	f.Add("k", 5, uint16(1), "v", 9, "k", 5, uint16(0), "v", 9)
	f.Add("k", 5, uint16(1), "v", 9, "l", 5, uint16(1), "va", 8)
	f.Fuzz(func(t *testing.T, key string, time int, origin uint16, value string, until int, key2 string, time2 int, origin2 uint16, value2 string, until2 int) {
		a := api.Entry{Key: key, Time: time, Origin: origin, Value: value, Until: until}
		b := api.Entry{Key: key2, Time: time2, Origin: origin2, Value: value2, Until: until2}
		if got, want := entry.Above(a, b), wantAbove(a, b); got != want {
			t.Errorf("Above(%s, %s) = %v", show(a), show(b), got)
		}
		if got, want := entry.Check(a), wantCheck(a); got != want {
			t.Errorf("Check(%s) = %d, not %d", show(a), int(got), int(want))
		}
		b.Key = a.Key
		if (entry.Above(a, b) || entry.Above(b, a)) != (a != b) || entry.Later(a, b) != entry.Later(b, a) {
			t.Errorf("of %s and %s not one is later", show(a), show(b))
		}
	})
}
