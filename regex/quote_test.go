package regex_test

import (
	"strings"
	"testing"

	"watchfire/api"
	"watchfire/regex"
)

// P3.3: Quote, of each byte, and of some texts.
func TestQuote(t *testing.T) {
	for b := range 256 {
		want := one(b)
		if strings.Contains(special, want) {
			want = `\` + want
		}
		if got := regex.Quote(one(b)); got != want {
			t.Errorf("Quote(%q) = %q", one(b), got)
		}
		if got := regex.Quote("a" + one(b) + one(b)); got != "a"+want+want {
			t.Errorf("Quote of a and two of %q = %q", one(b), got)
		}
	}
	for s, want := range map[string]string{
		"": "", "abc": "abc", "a.(": `a\.\(`, "]^-[": `\]^-\[`, `\\`: `\\\\`, "é\x00": "é\x00", special: `\(\)\[\]\|\*\+\?\.\\`, "{a}$": "{a}$",
		strings.Repeat(".", 1000): strings.Repeat(`\.`, 1000),
	} {
		if got := regex.Quote(s); got != want {
			t.Errorf("Quote(%q) = %q", s, got)
		}
	}
}

// P3.4: of the texts near s, just s is like Quote of s.
func TestQuoteLikeItself(t *testing.T) {
	texts := rows(special+"a-^\x00\xff", 2)
	for _, s := range texts {
		r := compile(t, regex.Quote(s))
		for _, text := range texts {
			if got := r.Match(text); got != (text == s) {
				t.Errorf("Match of Quote(%q): %q: %v", s, text, got)
			}
		}
	}
	for _, s := range []string{special, special + special + special, strings.Repeat("a", 64), strings.Repeat("|", 32), "a.b*c(d)[e]^$", "\xff\x00é"} {
		like(t, regex.Quote(s), s, true)
		for i := range len(s) {
			like(t, regex.Quote(s), s[:i], false)
			like(t, regex.Quote(s), s[:i]+"#"+s[i+1:], false)
			like(t, regex.Quote(s), s[:i]+s[i:i+1]+s[i:], false)
		}
	}
}

// P3.1, P3.3: a text whose Quote has more than 64 bytes has no pattern.
func TestQuoteLong(t *testing.T) {
	refuse(t, regex.Quote(strings.Repeat(".", 33)), api.ErrLong)
	refuse(t, regex.Quote(strings.Repeat("a", 65)), api.ErrLong)
}

// P3.2: of nil false.
func TestNil(t *testing.T) {
	var r *regex.Regex
	for _, text := range []string{"", "a", "abc", strings.Repeat("a", 100)} {
		if r.Match(text) {
			t.Errorf("Match of nil: %q: true", text)
		}
	}
}

// Rule 1: a long text ends, however many ways there are to cut it.
func TestLongTexts(t *testing.T) {
	text := strings.Repeat("a", 1<<20)
	for _, pattern := range []string{
		"(a*)*", "(a|a)*", "(a|aa)+", "(a?)+", "((a*)*)*", "(a*)*(a*)*(a*)*(a*)*", strings.Repeat("a*", 32), "(.*)(.*)(.*)(.*)(.*)(.*)(.*)(.*)", "((a+a+)+|.*)",
	} {
		r := compile(t, pattern)
		if !r.Match(text) || len(pattern) < 60 && compile(t, pattern+"b").Match(text) {
			t.Errorf("Match of %q at %d bytes", pattern, len(text))
		}
	}
	if compile(t, strings.Repeat("a?", 30)+"aaaa").Match(text) {
		t.Error("more than 34 bytes are like a pattern of at most so many")
	}
}

// Rule 4: one Regex answers the same again, and whatever others were asked between.
func TestAgain(t *testing.T) {
	a, b := compile(t, "a+"), compile(t, "[^a]|aa")
	for range 3 {
		if !a.Match("aaa") || a.Match("b") || a.Match("") || !b.Match("b") || !b.Match("aa") || b.Match("aaa") {
			t.Fatal("an answer has changed")
		}
		refuse(t, "a**(", api.ErrPattern)
	}
}

// P3.1, P3.2, P3.4: any bytes.
func FuzzLike(f *testing.F) {
	for _, pattern := range []string{"a|b*", `[a-c]+\.[^x]`, "(a|)+b??", "[a-c-e]", "*a", "(a", "[b-a]", `\`} {
		f.Add(pattern, "cab.y")
		f.Add(pattern, "")
	}
	f.Fuzz(func(t *testing.T, pattern, text string) {
		// The words take their time with long texts.
		if len(text) > 12 {
			text = text[:12]
		}
		switch {
		case len(pattern) > api.MaxPattern:
			refuse(t, pattern, api.ErrLong)
		case !wantPattern(pattern):
			refuse(t, pattern, api.ErrPattern)
		default:
			like(t, pattern, text, wantLike(pattern, text))
		}
		like(t, regex.Quote(text), text, true)
		like(t, regex.Quote(text), pattern, text == pattern)
	})
}
