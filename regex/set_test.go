package regex_test

import (
	"strings"
	"testing"

	"watchfire/api"
)

// takes asks whether a set takes just some bytes.
func takes(t *testing.T, set, bytes string) {
	t.Helper()
	r := compile(t, set)
	for b := range 256 {
		if got := r.Match(one(b)); got != strings.Contains(bytes, one(b)) {
			t.Errorf("%q takes %q: %v", set, one(b), got)
		}
	}
	if r.Match("") || r.Match(bytes+bytes) {
		t.Errorf("%q takes not just one byte", set)
	}
}

// others tells all bytes but some.
func others(bytes string) string {
	s := ""
	for b := range 256 {
		if !strings.Contains(bytes, one(b)) {
			s += one(b)
		}
	}
	return s
}

// P3.2: sets, and the same ones with ^.
func TestSets(t *testing.T) {
	for _, x := range []struct{ inner, bytes string }{
		{`a`, "a"}, {`abc`, "abc"}, {`a-c`, "abc"}, {`a-a`, "a"}, {`aa`, "a"}, {`a-cb-e`, "abcde"}, {`xa-cz`, "xabcz"},
		// A - that is first, or last, or behind a whole item, is a byte.
		{`-`, "-"}, {`--`, "-"}, {`-a`, "-a"}, {`a-`, "a-"}, {`-a-`, "-a"}, {`-a-c`, "-abc"}, {`a-c-`, "abc-"}, {`ab-`, "ab-"},
		{`a-c-e`, "abc-e"}, {`a-c-e-g`, "abc-efg"}, {`a-c\-e`, "abc-e"},
		// A - may be the first byte of an item, or its second one.
		{`---`, "-"}, {`--/`, "-./"}, {`+--`, "+,-"}, {`----`, "-"}, {`-----`, "-"}, {`a-c--/`, "abc-./"}, {`+---`, "+,-"}, {`+--a`, "+,-a"},
		// A \ makes a byte of what is behind it.
		{`\]`, "]"}, {`\\`, `\`}, {`\^`, "^"}, {`\-`, "-"}, {`\a`, "a"}, {`\a-c`, "abc"}, {`a-\c`, "abc"}, {`\a-\c`, "abc"},
		{`a\-c`, "a-c"}, {`\--/`, "-./"}, {`+-\-`, "+,-"}, {`[-\]`, `[\]`}, {`\[-\]`, `[\]`}, {`a\]b`, "a]b"}, {`\\-\]`, `\]`}, {`\--`, "-"},
		// Other special bytes are bytes in a set, and so is ^ that is not first.
		{`[`, "["}, {`()|*+?.`, "()|*+?."}, {`a^`, "a^"}, {`-^`, "-^"}, {`a-c^`, "abc^"}, {`\^a`, "^a"}, {`\^-a`, "^_`a"}, {`$-&`, "$%&"},
		// Bytes of all kinds.
		{"\x00", "\x00"}, {"\x00-\x02", "\x00\x01\x02"}, {"\xfe-\xff", "\xfe\xff"}, {"\xff", "\xff"}, {"\x7f-\x80", "\x7f\x80"},
		{"é", "\xc3\xa9"}, {"\x3f-\x41", "?@A"}, {"\xbf-\xc0", "\xbf\xc0"}, {"\n", "\n"}, {`\` + "\x00", "\x00"}, {`\` + "\xff", "\xff"},
		{"\x00-\xff", others("")}, {"\x01-\xff", others("\x00")}, {"\x00-\xfe", others("\xff")}, {"\x00-`b-\xff", others("a")},
	} {
		takes(t, "["+x.inner+"]", x.bytes)
		takes(t, "[^"+x.inner+"]", others(x.bytes))
	}
	takes(t, "[^^]", others("^"))
	takes(t, "[^^-a]", others("^_`a"))
	takes(t, "[^-^]", others("-^"))
	takes(t, "[^^^]", others("^"))
}

// P3.2: an item of any two bytes takes those from the first one to the second one, and is none, if the first one is above.
func TestItems(t *testing.T) {
	for from := range 256 {
		for to := range 256 {
			set := `[\` + one(from) + `-\` + one(to) + `]`
			if from > to {
				refuse(t, set, api.ErrPattern)
				continue
			}
			r := compile(t, set)
			for _, b := range []int{0, from - 1, from, (from + to) / 2, to, to + 1, 255} {
				if b < 0 || b > 255 {
					continue
				}
				if got := r.Match(one(b)); got != (from <= b && b <= to) {
					t.Errorf("%q takes %q: %v", set, one(b), got)
				}
			}
		}
	}
}
