package match_test

import (
	"strings"
	"testing"

	"watchfire/api"
	"watchfire/label"
	"watchfire/match"
	"watchfire/regex"
)

// P4.3: Text, with each comparison, and of wrong matchers.
func TestText(t *testing.T) {
	for _, c := range []struct {
		m    api.Matcher
		want string
	}{
		{is("a", api.Is, "1"), "a=1"},
		{is("a", api.IsNot, "1"), "a!=1"},
		{is("a", api.Like, "1|2"), "a=~1|2"},
		{is("a", api.NotLike, "x"), "a!~x"},
		{is("a", api.Is, ""), "a="},
		{is("a", api.NotLike, ""), "a!~"},
		{is("a", api.Is, "~x"), "a=~x"},
		{is("a", api.IsNot, "=x"), "a!==x"},
		{is("a", api.Is, "\x00\xff\n\""), "a=\x00\xff\n\""},
		{api.Matcher{}, "="},
		{is("", api.Like, "("), "=~("},
		{is("A=", api.IsNot, "("), "A=!=("},
		{is("\xff", api.NotLike, value65), "\xff!~" + value65},
		{is(name16+"q", api.Is, value65), name16 + "q=" + value65},
	} {
		if got := match.Text(c.m); got != c.want {
			t.Errorf("Text(%q %d %q) = %q", c.m.Name, c.m.Op, c.m.Value, got)
		}
	}
}

// P4.3: Text, of each comparison that is none.
func TestTextOfNoOp(t *testing.T) {
	for op := 4; op < 256; op++ {
		if got := match.Text(is("a", api.Op(op), "1")); got != "a1" {
			t.Errorf("Text(a %d 1) = %q", op, got)
		}
	}
}

// P4.3: Read: what it takes, and as which matcher.
func TestReadTakes(t *testing.T) {
	for s, want := range map[string]api.Matcher{
		"a=1":                  is("a", api.Is, "1"),
		"a!=1":                 is("a", api.IsNot, "1"),
		"a=~1|2":               is("a", api.Like, "1|2"),
		"a!~x":                 is("a", api.NotLike, "x"),
		"a=":                   is("a", api.Is, ""),
		"a!=":                  is("a", api.IsNot, ""),
		"a=~":                  is("a", api.Like, ""),
		"a!~":                  is("a", api.NotLike, ""),
		"_=_":                  is("_", api.Is, "_"),
		name16 + "=" + value64: is(name16, api.Is, value64),

		// Several signs: the first one counts.
		"a=b=c":   is("a", api.Is, "b=c"),
		"a=b!=c":  is("a", api.Is, "b!=c"),
		"a!=b=c":  is("a", api.IsNot, "b=c"),
		"a=~b=~c": is("a", api.Like, "b=~c"),
		"a=~b!~c": is("a", api.Like, "b!~c"),
		"a!~b=c":  is("a", api.NotLike, "b=c"),
		"a=!=":    is("a", api.Is, "!="),
		"a=!~(":   is("a", api.Is, "!~("),
		"a!=!=":   is("a", api.IsNot, "!="),
		"a!~!~":   is("a", api.NotLike, "!~"),

		// Values that begin as a sign goes on.
		"a==":     is("a", api.Is, "="),
		"a==1":    is("a", api.Is, "=1"),
		"a==~1":   is("a", api.Is, "=~1"),
		"a!==1":   is("a", api.IsNot, "=1"),
		"a!=~1":   is("a", api.IsNot, "~1"),
		"a!=~(":   is("a", api.IsNot, "~("),
		"a=~~":    is("a", api.Like, "~"),
		"a=~=":    is("a", api.Like, "="),
		"a=~=1":   is("a", api.Like, "=1"),
		"a!~~x":   is("a", api.NotLike, "~x"),
		"a!~=":    is("a", api.NotLike, "="),
		"a=1~":    is("a", api.Is, "1~"),
		"a= ~x":   is("a", api.Is, " ~x"),
		"a=~\\(":  is("a", api.Like, "\\("),
		"a=\xff":  is("a", api.Is, "\xff"),
		"a=~\xff": is("a", api.Like, "\xff"),
		"a!=\x00": is("a", api.IsNot, "\x00"),

		// No pattern behind =~, but a value that begins with ~ behind =.
		"a=~(":    is("a", api.Is, "~("),
		"a=~~(":   is("a", api.Is, "~~("),
		"a=~a)":   is("a", api.Is, "~a)"),
		"a=~*":    is("a", api.Is, "~*"),
		"a=~[^]":  is("a", api.Is, "~[^]"),
		"a=~a\\":  is("a", api.Is, "~a\\"),
		"a=~=~(":  is("a", api.Is, "~=~("),
		"a=~(!~(": is("a", api.Is, "~(!~("),

		// The longest ones.
		"a!=" + value64:                       is("a", api.IsNot, value64),
		"a=~" + value64:                       is("a", api.Like, value64),
		"a!~" + value64:                       is("a", api.NotLike, value64),
		"a=~" + strings.Repeat("(", 63):       is("a", api.Is, "~"+strings.Repeat("(", 63)),
		"a=" + strings.Repeat("=", 64):        is("a", api.Is, strings.Repeat("=", 64)),
		name16 + "=~" + value64:               is(name16, api.Like, value64),
		"a=~" + strings.Repeat("a*", 32):      is("a", api.Like, strings.Repeat("a*", 32)),
		"a=~" + strings.Repeat("~", 63):       is("a", api.Like, strings.Repeat("~", 63)),
		"a=~" + strings.Repeat("~", 64):       is("a", api.Like, strings.Repeat("~", 64)),
		"a!=" + "~" + strings.Repeat("(", 63): is("a", api.IsNot, "~"+strings.Repeat("(", 63)),
	} {
		if got, err := match.Read(s); got != want || err != api.OK {
			t.Errorf("Read(%q) = %q %d %q, %d", s, got.Name, got.Op, got.Value, int(err))
		}
	}
}

// P4.3: Read: what it refuses.
func TestReadRefuses(t *testing.T) {
	for _, s := range []string{
		"", " ", "a", "ab1", "a1", "~", "a~", "a~x", "(", name16, value64,
		"=", "=x", "!=", "!=x", "=~", "=~x", "!~", "!~x", "==", "=a=1",
		"!", "a!", "a!x", "a! =x", "a!!=x", "a!(", "a!x=1", "a!x=~1", "a!x!~1", "!a=1",
		"A=1", "aB=1", "0=1", "0a=1", "a-b=1", "a =1", " a=1", "a~=1", "a~=~1", "a\n=1", "\xff=1", "\u00e4=1", "(=1", "A=a=1", "A!=a=1",
		name16 + "q=1", name16 + "q!=1", name16 + "q=~1", name16 + "q!~1",
		"a!~(", "a!~a)", "a!~*", "a!~[", "a!~\\", "a!~(=1", "a!~(!=1", "a!~(=~1",
		"a=" + value65, "a!=" + value65, "a=~" + value65, "a!~" + value65,
		"a=~" + strings.Repeat("(", 64), "a!~" + strings.Repeat("(", 64), "a=~" + strings.Repeat("~", 65),
		"a=" + strings.Repeat("v", 1_000_000), strings.Repeat("a", 1_000_000) + "=1", strings.Repeat("a", 1_000_000),
	} {
		if got, err := match.Read(s); got != (api.Matcher{}) || err != api.ErrForm {
			t.Errorf("Read(%.80q) = %q %d %.80q, %d", s, got.Name, got.Op, got.Value, int(err))
		}
	}
}

// P4.3: Read, with each byte as a name, ahead of the sign, in the sign and behind it.
func TestReadAtEachByte(t *testing.T) {
	for one := range 256 {
		b := string([]byte{byte(one)})
		for _, s := range []string{b, b + "=1", "a" + b + "=1", "a" + b, "a" + b + "1", "a=" + b, "a!" + b, "a!" + b + "1", "a=" + b + "1", "a=~" + b, "a!~" + b, "a!=" + b, "a" + b + "=~(", "a=~(" + b, "a!~(" + b} {
			holdRead(t, s)
		}
	}
}

// P4.3: Read, of all short rows of the bytes that count.
func TestReadByWords(t *testing.T) {
	for _, s := range rows("aA1=!~(", 6) {
		holdRead(t, s)
	}
	for _, s := range rows("a=!~()|*[]\\", 4) {
		holdRead(t, "a"+s)
	}
}

// holdRead holds what Read answers against the chapter's words.
func holdRead(t *testing.T, s string) {
	t.Helper()
	want, wantErr := wantRead(s)
	got, err := match.Read(s)
	if got != want || err != wantErr {
		t.Fatalf("Read(%q) = %q %d %q, %d, not %q %d %q, %d", s, got.Name, got.Op, got.Value, int(err), want.Name, want.Op, want.Value, int(wantErr))
	}
	if err == api.OK && match.Text(got) != s {
		t.Fatalf("Text of Read(%q) = %q", s, match.Text(got))
	}
}

// wantRead looks among all matchers whose text is s, the shortest names first, and patterns ahead of values.
func wantRead(s string) (api.Matcher, api.Errno) {
	for name := range len(s) + 1 {
		for _, op := range []api.Op{api.NotLike, api.Like, api.IsNot, api.Is} {
			for value := name; value <= len(s); value++ {
				m := is(s[:name], op, s[value:])
				if wantText(m) == s && wantCheck(m) {
					return m, api.OK
				}
			}
		}
	}
	return api.Matcher{}, api.ErrForm
}

func wantText(m api.Matcher) string {
	return m.Name + [...]string{"=", "!=", "=~", "!~"}[m.Op] + m.Value
}

func wantCheck(m api.Matcher) bool {
	_, err := regex.Compile(m.Value)
	return label.Name(m.Name) && len(m.Value) <= 64 && (err == api.OK || m.Op < api.Like)
}

// P4.3: Read takes the text of each matcher that Check takes, and tells it again, but where =~ makes a pattern of its value.
func TestReadOfText(t *testing.T) {
	for _, value := range rows("a=!~(*", 4) {
		for _, op := range ops {
			m := is("ab_1", op, value)
			if match.Check(m) != api.OK {
				continue
			}
			want := m
			if rest, ok := strings.CutPrefix(value, "~"); ok && op == api.Is && match.Check(is("a", api.Like, rest)) == api.OK {
				want = is("ab_1", api.Like, rest)
			}
			if got, err := match.Read(match.Text(m)); got != want || err != api.OK {
				t.Fatalf("Read(%q) = %q %d %q, %d", match.Text(m), got.Name, got.Op, got.Value, int(err))
			}
		}
	}
}

func FuzzRead(f *testing.F) {
	for _, s := range []string{"", "a=1", "a!=~1", "a=~(", "a!~(", "a=~1|2", "A=1", "a!x=1", "a=~" + value64} {
		f.Add(s)
	}
	f.Fuzz(func(t *testing.T, s string) {
		if len(s) < 200 {
			holdRead(t, s)
		}
	})
}
