package regex_test

import (
	"math/rand"
	"strings"
	"testing"

	"watchfire/api"
	"watchfire/regex"
)

const special = `()[]|*+?.\`

// one is the text of one byte.
func one(b int) string { return string([]byte{byte(b)}) }

// eachRow calls a function with each row of at most so many of some bytes, nothing among them.
func eachRow(bytes string, most int, do func(string)) {
	var grow func(string)
	grow = func(s string) {
		do(s)
		if len(s) == most {
			return
		}
		for i := range len(bytes) {
			grow(s + bytes[i:i+1])
		}
	}
	grow("")
}

// rows tells what eachRow goes through.
func rows(bytes string, most int) []string {
	var l []string
	eachRow(bytes, most, func(s string) { l = append(l, s) })
	return l
}

// compile tells the Regex of a pattern that must be one.
func compile(t *testing.T, pattern string) *regex.Regex {
	t.Helper()
	r, err := regex.Compile(pattern)
	if err != api.OK || r == nil {
		t.Fatalf("Compile(%q) = %v, %d", pattern, r, int(err))
	}
	return r
}

// refuse asks for an error of a pattern, from Compile and from Like, and for nothing beside it.
func refuse(t *testing.T, pattern string, want api.Errno) {
	t.Helper()
	if r, err := regex.Compile(pattern); r != nil || err != want {
		t.Errorf("Compile(%q) = %v, %d, want %d", pattern, r, int(err), int(want))
	}
	for _, text := range []string{"", "a", pattern} {
		if ok, err := regex.Like(pattern, text); ok || err != want {
			t.Errorf("Like(%q, %q) = %v, %d, want %d", pattern, text, ok, int(err), int(want))
		}
	}
}

// like asks Match and Like whether a text is like a pattern.
func like(t *testing.T, pattern, text string, want bool) {
	t.Helper()
	if got := compile(t, pattern).Match(text); got != want {
		t.Errorf("Match of %q: %q: %v", pattern, text, got)
	}
	if got, err := regex.Like(pattern, text); got != want || err != api.OK {
		t.Errorf("Like(%q, %q) = %v, %d", pattern, text, got, int(err))
	}
}

// P3.1, P3.2: the chapter's examples.
func TestExamples(t *testing.T) {
	like(t, `a|b*`, `bbb`, true)
	like(t, `a|b*`, ``, true)
	like(t, `a`, `ab`, false)
	like(t, `[a-c]+\.[^x]`, `cab.y`, true)
	refuse(t, `*a`, api.ErrPattern)
	refuse(t, `[b-a]`, api.ErrPattern)
	refuse(t, `(a`, api.ErrPattern)
}

// P3.1: texts that are no patterns.
func TestNoPattern(t *testing.T) {
	for _, pattern := range []string{
		`*`, `+`, `?`, `a|*`, `a|+b`, `a|?`, `(*)`, `(+a)`, `(a|?)`, `|*`,
		`)`, `a)`, `()a)`, `(a))`, `a)b`, `(`, `((`, `(()`, `(a|b`, `(a|`, `a(`, `(\)`, `([)]`, `([)`,
		`]`, `a]`, `[a]]`, `a]b`, `\\]`,
		`\`, `a\`, `\\\`, `(\`, `a|\`,
		`[`, `[]`, `[^`, `[^]`, `[]a]`, `[^]a]`, `[a`, `[^a`, `[a-`, `[a-b`, `[-`, `[\`, `[\]`, `[a\]`, `[a-\]`, `[a\`, `[a-\`,
		`[b-a]`, `[^b-a]`, `[ab-a]`, `[a-cb-a]`, `[.--]`, `[a-b.--]`, `[\b-a]`, `[b-\a]`, `[a-\]]`, "[\xff-\x00]", "[\x80-\x7f]", "[\x01-\x00]",
	} {
		refuse(t, pattern, api.ErrPattern)
	}
}

// P3.1: a pattern of 64 bytes is none too long, one of 65 is; ErrLong is named ahead of ErrPattern.
func TestLong(t *testing.T) {
	for _, unit := range []string{"a", ".", "|", "()", "[a-c", "a*", "\\", "*", "(", ")", "\x00", "é"} {
		long := strings.Repeat(unit, 70)
		refuse(t, long[:65], api.ErrLong)
		refuse(t, long, api.ErrLong)
		want := api.OK
		if !wantPattern(long[:64]) {
			want = api.ErrPattern
		}
		if r, err := regex.Compile(long[:64]); err != want || (r != nil) != (want == api.OK) {
			t.Errorf("Compile(%q) = %v, %d", long[:64], r, int(err))
		}
	}
	refuse(t, strings.Repeat("a", 1<<20), api.ErrLong)
}

// P3.2: patterns of 64 bytes, of as many places as there may be, and of as many brackets.
func TestAtLimit(t *testing.T) {
	a64 := strings.Repeat("a", 64)
	like(t, a64, a64, true)
	like(t, a64, a64[1:], false)
	like(t, a64, a64+"a", false)
	like(t, a64, a64[1:]+"b", false)
	dots := strings.Repeat(".", 63) + "b"
	like(t, dots, a64[1:]+"b", true)
	like(t, dots, a64, false)
	maybes := strings.Repeat("a?", 32)
	for n := range 40 {
		like(t, maybes, strings.Repeat("a", n), n <= 32)
	}
	bars := strings.Repeat("|", 63) + "b"
	like(t, bars, "", true)
	like(t, bars, "b", true)
	like(t, bars, "a", false)
	nest := strings.Repeat("(", 31) + "ab" + strings.Repeat(")", 31)
	like(t, nest, "ab", true)
	like(t, nest, "abab", false)
	stars := strings.Repeat("(", 21) + "a" + strings.Repeat(")*", 21)
	like(t, stars, strings.Repeat("a", 100), true)
	like(t, stars, "", true)
	like(t, stars, "ab", false)
	signs := "a" + strings.Repeat("*+?", 21)
	like(t, signs, "", true)
	like(t, signs, "aaa", true)
	like(t, signs, "aab", false)
}

// P3.1, P3.2: each row of up to four of the bytes that mean something, and of others: whether it is a pattern, and what is like it.
func TestShortPatterns(t *testing.T) {
	texts := append(rows("ab-^", 2), "aaa", "aba", "bab", "abb", "a-b", ".", "]", `\`, "(", "*", "aaaa")
	eachRow(special+"ab-^", 4, func(pattern string) {
		if !wantPattern(pattern) {
			if r, err := regex.Compile(pattern); r != nil || err != api.ErrPattern {
				t.Errorf("Compile(%q) = %v, %d", pattern, r, int(err))
			}
			return
		}
		r := compile(t, pattern)
		for _, text := range texts {
			if got := r.Match(text); got != wantLike(pattern, text) {
				t.Errorf("Match of %q: %q: %v", pattern, text, got)
			}
		}
	})
}

// P3.1: each row of up to seven bytes of brackets, of sets and of a sign: whether it is a pattern.
func TestShortRows(t *testing.T) {
	for _, bytes := range []string{"()|a*", `[]^-\a`} {
		eachRow(bytes, 7, func(pattern string) {
			want := api.OK
			if !wantPattern(pattern) {
				want = api.ErrPattern
			}
			if r, err := regex.Compile(pattern); err != want || (r == nil) != (want != api.OK) {
				t.Errorf("Compile(%q) = %v, %d", pattern, r, int(err))
			}
		})
	}
}

// P3.2: longer patterns, of brackets in brackets, of rows and of signs, held against the words.
func TestGrownPatterns(t *testing.T) {
	draw := rand.New(rand.NewSource(3))
	texts := rows("abc", 4)
	for range 4000 {
		pattern := growRows(draw, 3)
		if len(pattern) > api.MaxPattern {
			continue
		}
		r := compile(t, pattern)
		for range 20 {
			text := texts[draw.Intn(len(texts))]
			if got := r.Match(text); got != wantLike(pattern, text) {
				t.Fatalf("Match of %q: %q: %v", pattern, text, got)
			}
		}
	}
}

// growRows makes a pattern of at most so many brackets, one in the other.
func growRows(draw *rand.Rand, deep int) string {
	s := ""
	for n := draw.Intn(3); ; n-- {
		for range draw.Intn(4) {
			s += growAtom(draw, deep)
			for draw.Intn(2) == 0 {
				s += one(int("*+?"[draw.Intn(3)]))
			}
		}
		if n == 0 {
			return s
		}
		s += "|"
	}
}

func growAtom(draw *rand.Rand, deep int) string {
	if n := draw.Intn(5); n > 2 && deep > 0 {
		return "(" + growRows(draw, deep-1) + ")"
	} else if n == 0 {
		return []string{".", `\a`, "[ab]", "[^a]", "[b-c]", "[^b-ca]"}[draw.Intn(6)]
	}
	return []string{"a", "b", "c"}[draw.Intn(3)]
}

// P3.2: the empty pattern, empty rows, and an empty row within brackets.
func TestEmpty(t *testing.T) {
	for _, pattern := range []string{``, `()`, `(())`, `|`, `||`, `(|)`, `()()`, `(|)|`, `()*`, `()+`, `()?`, `(|)*+?`, `()**`, `(()*)+`} {
		like(t, pattern, "", true)
		for _, text := range []string{"a", "\x00", " ", "(", ")", "|"} {
			like(t, pattern, text, false)
		}
	}
	for _, pattern := range []string{`a|`, `|a`, `(a|)`, `(|a)`, `()|a`, `a?`, `(|a)()`} {
		like(t, pattern, "", true)
		like(t, pattern, "a", true)
		like(t, pattern, "aa", false)
		like(t, pattern, "b", false)
	}
	for _, pattern := range []string{`a(|b)c`, `a(b|)c`, `a()b?c`} {
		like(t, pattern, "ac", true)
		like(t, pattern, "abc", true)
		like(t, pattern, "abbc", false)
		like(t, pattern, "bc", false)
	}
	for _, pattern := range []string{`.`, `a`, `[a]`, `[^a]`, `a+`, `a|b`, `\a`, `a*b`} {
		like(t, pattern, "", false)
	}
}

// P3.2: several signs one behind the other: the last one says, of what stands ahead of it.
func TestSigns(t *testing.T) {
	for _, x := range []struct {
		signs           string
		none, one, more bool
	}{
		{"", false, true, false}, {"*", true, true, true}, {"+", false, true, true}, {"?", true, true, false},
		{"**", true, true, true}, {"*+", true, true, true}, {"*?", true, true, true},
		{"+*", true, true, true}, {"++", false, true, true}, {"+?", true, true, true},
		{"?*", true, true, true}, {"?+", true, true, true}, {"??", true, true, false},
		{"+++", false, true, true}, {"???", true, true, false}, {"?+?", true, true, true},
	} {
		for _, atom := range []string{"a", "(a)", "[a]", `\a`, "((a))"} {
			like(t, atom+x.signs, "", x.none)
			like(t, atom+x.signs, "a", x.one)
			for _, text := range []string{"aa", "aaa", strings.Repeat("a", 99)} {
				like(t, atom+x.signs, text, x.more)
			}
			like(t, atom+x.signs, "b", false)
			like(t, atom+x.signs, "ab", false)
			like(t, atom+x.signs, "ba", false)
		}
	}
	like(t, "ab*", "abb", true)
	like(t, "ab*", "abab", false)
	like(t, "(ab)*", "abab", true)
	like(t, "(ab)*", "aba", false)
	like(t, "(a|b)*c", "abbac", true)
	like(t, "a|b*", "aa", false)
	like(t, "(a?b?)+", "aabba", true)
}

// P3.2: the whole text must be like the pattern, whichever row and whichever cut it takes.
func TestWhole(t *testing.T) {
	like(t, "(a|ab)(c|bcd)", "abcd", true)
	like(t, "(a|ab)(c|bcd)", "abc", true)
	like(t, "(a|ab)(c|bcd)", "ac", true)
	like(t, "(a|ab)(c|bcd)", "abbcd", true)
	like(t, "(a|ab)(c|bcd)", "acd", false)
	like(t, "a|ab|abc", "abc", true)
	like(t, "a|ab|abc", "abcd", false)
	like(t, "b", "ab", false)
	like(t, "^a$", "a", false)
	like(t, "^a$", "^a$", true)
	like(t, "a{2}-,", "a{2}-,", true)
}

// P3.1, P3.2: a byte alone is a pattern, unless it is special; with a \ ahead any one is, and just that is like it.
func TestEachByte(t *testing.T) {
	for b := range 256 {
		plain, quoted := one(b), `\`+one(b)
		for other := range 256 {
			like(t, quoted, one(other), other == b)
			like(t, ".", one(other), true)
			if !strings.Contains(special, plain) {
				like(t, plain, one(other), other == b)
			}
		}
		like(t, quoted+"*b", plain+plain+"b", true)
		like(t, quoted, quoted, false)
		like(t, quoted, "", false)
		switch {
		case plain == ".":
			like(t, plain, "x", true)
		case plain == "|":
			like(t, plain, "", true)
		case strings.Contains(special, plain):
			refuse(t, plain, api.ErrPattern)
		}
	}
	like(t, ".", "é", false)
	like(t, "..", "é", true)
	like(t, "é*", "éé", false)
	like(t, "é*", "\xc3\xa9\xa9", true)
	like(t, "\x00\xff", "\x00\xff", true)
	like(t, ".\n.", "\n\n\r", true)
}
