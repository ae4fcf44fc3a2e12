package ben_test

import (
	"math"
	"strings"
	"testing"

	"watchfire/ben"
)

// P1.1: Int.
func TestIntIsLaid(t *testing.T) {
	for n, want := range map[int64]string{
		0:             "i0e",
		5:             "i5e",
		-5:            "i-5e",
		10:            "i10e",
		-100:          "i-100e",
		math.MaxInt64: "i9223372036854775807e",
		math.MinInt64: "i-9223372036854775808e",
	} {
		if got := string(ben.Int(n)); got != want {
			t.Errorf("Int(%d) = %q, want %q", n, got, want)
		}
	}
}

// P1.1: Text.
func TestTextIsLaid(t *testing.T) {
	long := strings.Repeat("x", 12345)
	for s, want := range map[string]string{
		"":            "0:",
		"ab":          "2:ab",
		"0123456789":  "10:0123456789",
		"3:e":         "3:3:e",
		"\x00\xff\n":  "3:\x00\xff\n",
		"\u00e4":      "2:\xc3\xa4",
		long:          "12345:" + long,
		"li-5e2:abe":  "10:li-5e2:abe",
		"\xe2\x82":    "2:\xe2\x82",
		"line\r\nend": "9:line\r\nend",
	} {
		if got := string(ben.Text(s)); got != want {
			t.Errorf("Text(%q) = %q, want %q", s, got, want)
		}
	}
}

// P1.1: List.
func TestListIsLaid(t *testing.T) {
	for _, c := range []struct {
		parts [][]byte
		want  string
	}{
		{nil, "le"},
		{[][]byte{nil}, "le"},
		{[][]byte{{}, nil, {}}, "le"},
		{[][]byte{ben.Int(-5), ben.Text("ab")}, "li-5e2:abe"},
		{[][]byte{ben.Text("ab"), ben.Int(-5)}, "l2:abi-5ee"},
		{[][]byte{ben.List(), ben.List(ben.Int(1), ben.List())}, "lleli1eleee"},
		{[][]byte{[]byte("any"), {0, 255}}, "lany\x00\xffe"},
	} {
		if got := string(ben.List(c.parts...)); got != c.want {
			t.Errorf("List(%q) = %q, want %q", c.parts, got, c.want)
		}
	}
	if got := string(ben.List()); got != "le" {
		t.Errorf("List() = %q", got)
	}
}

// Rule 3: an answer is new memory, with its spare room; arguments stay as they are.
func TestListSharesNothing(t *testing.T) {
	room := []byte("i1eSPARE")
	part := room[:3]
	first := ben.List(part)
	second := ben.List(part)
	clobber(first)
	if string(second) != "li1ee" || string(room) != "i1eSPARE" {
		t.Errorf("second list %q, argument %q", second, room)
	}
	second = ben.List(part)
	part[1] = 0x39
	if string(second) != "li1ee" {
		t.Errorf("the list changed with its part: %q", second)
	}
}

// Rule 3, of the two that are handed no bytes.
func TestIntAndTextShareNothing(t *testing.T) {
	clobber(ben.Int(7))
	clobber(ben.Text("seven"))
	if got := string(ben.Int(7)) + string(ben.Text("seven")); got != "i7e5:seven" {
		t.Errorf("laid again: %q", got)
	}
}

// clobber writes over b and its spare room.
func clobber(b []byte) {
	b = b[:cap(b)]
	for i := range b {
		b[i] = '#'
	}
}
