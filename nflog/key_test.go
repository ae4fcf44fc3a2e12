package nflog_test

import (
	"fmt"
	"strings"
	"testing"

	"watchfire/group"
	"watchfire/nflog"
)

// P12.1: the chapter's example.
func TestKeyExample(t *testing.T) {
	holdKey(t, "r", "g", "nl1:r1:ge")
}

// P12.1: keys, written out: of empty texts, of any bytes, of lengths with more digits, of bytes that were laid themselves.
func TestKey(t *testing.T) {
	for _, try := range []struct{ receiver, group, want string }{
		{"", "", "nl0:0:e"},
		{"r", "", "nl1:r0:e"},
		{"", "g", "nl0:1:ge"},
		{"g", "r", "nl1:g1:re"},
		{"page", "li0e3:job1:xe", "nl4:page13:li0e3:job1:xee"},
		{"e", "e", "nl1:e1:ee"},
		{"\x00\xff", "\n ", "nl2:\x00\xff2:\n e"},
		{"\u00e4", "\u20ac", "nl2:\u00e43:\u20ace"},
		{"R-1", "Key", "nl3:R-13:Keye"},
		{"n", "nl1:r1:ge", "nl1:n9:nl1:r1:gee"},
		{"xxxxxxxxx", "xxxxxxxxxx", "nl9:xxxxxxxxx10:xxxxxxxxxxe"},
		{xs(99), xs(100), "nl99:" + xs(99) + "100:" + xs(100) + "e"},
		{xs(1013), "g", "nl1013:" + xs(1013) + "1:ge"},
		{"r", xs(1_000_000), "nl1:r1000000:" + xs(1_000_000) + "e"},
	} {
		holdKey(t, try.receiver, try.group, try.want)
	}
}

// P12.1: each byte is told as it is, in either text.
func TestKeyBytes(t *testing.T) {
	for b := range 256 {
		one := string([]byte{byte(b)})
		holdKey(t, one, "g", "nl1:"+one+"1:ge")
		holdKey(t, "r", one, "nl1:r1:"+one+"e")
		holdKey(t, "r"+one, one+"g", "nl2:r"+one+"2:"+one+"ge")
	}
}

// P12.1: texts of each length up to one of four digits.
func TestKeyLengths(t *testing.T) {
	for n := range 1100 {
		holdKey(t, xs(n), "g", fmt.Sprintf("nl%d:%s1:ge", n, xs(n)))
		holdKey(t, "r", xs(n), fmt.Sprintf("nl1:r%d:%se", n, xs(n)))
	}
}

// P12.1: pairs that differ have keys that differ, though their bytes may be one text put together.
func TestKeyTellsApart(t *testing.T) {
	text := "1:ab1:ce"
	seen := map[string]int{}
	for i := range len(text) + 1 {
		holdKey(t, text[:i], text[i:], wantKey(text[:i], text[i:]))
		seen[nflog.Key(text[:i], text[i:])]++
	}
	if len(seen) != len(text)+1 {
		t.Errorf("%d keys of %d pairs: %v", len(seen), len(text)+1, seen)
	}
	parts := []string{"", "a", "b", "ab", "ba", "0:", "1:a", "a1:b", "1:b", "e", "ee", "l", "le", "i1e", "n", "\x00", "1", ":", "11:", "a0:", "0:a", "a1:be", "a1:b1:a"}
	of := map[string]string{}
	for _, receiver := range parts {
		for _, group := range parts {
			key := nflog.Key(receiver, group)
			pair := fmt.Sprintf("%q, %q", receiver, group)
			if was, there := of[key]; there {
				t.Errorf("Key(%s) and Key(%s) are %q", was, pair, key)
			}
			of[key] = pair
		}
	}
}

// P12.1: the keys of groups, as they are told, have keys of their own, that begin with an n.
func TestKeyOfGroups(t *testing.T) {
	for route := range 16 {
		key := group.Key(route, nil)
		got := nflog.Key("all", key)
		if want := fmt.Sprintf("nl3:all%d:%se", len(key), key); got != want || !strings.HasPrefix(got, "n") {
			t.Errorf("Key(all, %q) = %q, not %q", key, got, want)
		}
	}
}
