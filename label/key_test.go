package label_test

import (
	"math/rand"
	"regexp"
	"slices"
	"strconv"
	"strings"
	"testing"

	"watchfire/api"
	"watchfire/label"
)

// P2.4: Key, of any pairs, right or wrong.
func TestKey(t *testing.T) {
	for _, c := range []struct {
		l    []api.Pair
		want string
	}{
		{nil, "le"},
		{[]api.Pair{}, "le"},
		{pairs("a", "1", "b", "2"), "l1:a1:11:b1:2e"},
		{pairs("b", "2", "a", "1"), "l1:b1:21:a1:1e"},
		{pairs("", ""), "l0:0:e"},
		{pairs("a", "\x00\xffe"), "l1:a3:\x00\xffee"},
		{pairs("No name!", "", "No name!", ""), "l8:No name!0:8:No name!0:e"},
		{pairs(name16, value64), "l16:" + name16 + "64:" + value64 + "e"},
		{pairs("a", value65), "l1:a65:" + value65 + "e"},
		{many(9), "l" + strings.Join([]string{"1:a", "1:b", "1:c", "1:d", "1:e", "1:f", "1:g", "1:h", "1:i", ""}, "1:1") + "e"},
	} {
		if got := label.Key(c.l); got != c.want {
			t.Errorf("Key(%q) = %q, want %q", c.l, got, c.want)
		}
	}
}

// P2.4: Read: what Key lays of right pairs.
func TestReadTakes(t *testing.T) {
	for _, l := range [][]api.Pair{
		nil,
		pairs("a", "1"),
		pairs("a", "1", "b", "2"),
		pairs("a", "e", "ab", "le", "b", "1:a1:1"),
		pairs("a", "\x00", "b", "\xff\xfe", "c", "\u00e4"),
		pairs(name16, value64),
		many(8),
	} {
		got, err := label.Read(label.Key(l))
		if err != api.OK || !slices.Equal(got, l) {
			t.Errorf("Read(Key(%q)) = %q, %d", l, got, int(err))
		}
	}
	widest := many(8)
	for i := range widest {
		widest[i] = api.Pair{Name: name16[:15] + widest[i].Name, Value: value64}
	}
	if got, err := label.Read(label.Key(widest)); err != api.OK || !slices.Equal(got, widest) {
		t.Errorf("the widest pairs: %q, %d", got, int(err))
	}
}

// P2.4: Read: what Key lays of wrong pairs is none, and it has but one error.
func TestReadRefusesWrongPairs(t *testing.T) {
	for _, l := range [][]api.Pair{
		many(9),
		many(26),
		pairs("a", value65),
		pairs("a", ""),
		pairs("", "1"),
		pairs("", ""),
		pairs("A", "1"),
		pairs(name16+"q", "1"),
		pairs("a", "1", "0", "1"),
		pairs("b", "2", "a", "1"),
		pairs("ab", "1", "a", "1"),
		pairs("a", "1", "a", "1"),
		pairs("a", "1", "a", "2"),
	} {
		if got, err := label.Read(label.Key(l)); err != api.ErrForm || len(got) != 0 {
			t.Errorf("Read(Key(%q)) = %q, %d", l, got, int(err))
		}
	}
}

// P2.4: Read: what is nearly what Key lays is none.
func TestReadRefusesOtherTexts(t *testing.T) {
	for _, key := range []string{
		"", "l", "e", "ll", "lle", "lee", "le ", " le", "lele", "Le", "x", "\x00",
		"l1:ae", "l1:a", "l1:a1:1", "l1:a1:11:be", "l1:a1:11:b", "l1:a1:11:b1:",
		"l1:a1:1ee", "l1:a1:1e1:b", "1:a1:1e", "l1:a1:1el1:b1:1e", "xl1:a1:1e",
		"l01:a1:1e", "l1:a01:1e", "l1:a+1:1e", "l-1:a1:1e", "l1 :a1:1e", "l 1:a1:1e",
		"li1e1:1e", "l1:ai1ee", "l1:al1:1ee", "ll1:a1:1ee", "l1:a1:1 e", "l1;a1:1e",
		"l2:a1:1e", "l1:a2:1e", "l1:a9999999999:1e", "l1:a99999999999999999999:1e",
		"l1:a1:1E", "a=1", "l1:a1:1le", strings.Repeat("l", 100_000), strings.Repeat("1:a", 100_000),
		"l" + strings.Repeat("1:a1:1", 100_000) + "e",
	} {
		if got, err := label.Read(key); err != api.ErrForm || len(got) != 0 {
			t.Errorf("Read(%.40q) = %q, %d", key, got, int(err))
		}
	}
}

// P2.4: Read: each cut, each byte too much and each other byte of one key.
func TestReadRefusesCutKeys(t *testing.T) {
	key := label.Key(pairs("a", "1", "bc", "22", "d", "3"))
	for at := range len(key) {
		checkRead(t, key[:at])
		checkRead(t, key[at:])
		checkRead(t, key[:at]+key[at+1:])
		for one := range 256 {
			b := string([]byte{byte(one)})
			checkRead(t, key[:at]+b+key[at:])
			checkRead(t, key[:at]+b+key[at+1:])
		}
	}
	if _, err := label.Read(key + "e"); err != api.ErrForm {
		t.Error("a byte too much is taken")
	}
}

// Rule 3, of Read: an answer is new memory.
func TestReadAnswersNewMemory(t *testing.T) {
	first, _ := label.Read("l1:a1:1e")
	second, _ := label.Read("l1:a1:1e")
	clear(first[:cap(first)])
	if !slices.Equal(second, pairs("a", "1")) {
		t.Errorf("the second answer changed: %q", second)
	}
}

var textAhead = regexp.MustCompile(`\A(0|[1-9][0-9]?):`)

// cutText cuts the text that a key begins with, by the document's words.
func cutText(key string) (text, rest string, ok bool) {
	ahead := textAhead.FindString(key)
	if ahead == "" {
		return "", "", false
	}
	n, _ := strconv.Atoi(strings.TrimSuffix(ahead, ":"))
	key = key[len(ahead):]
	if n > len(key) {
		return "", "", false
	}
	return key[:n], key[n:], true
}

// wantRead tells what Read must, by the document's words.
func wantRead(key string) ([]api.Pair, bool) {
	rest, ok := strings.CutPrefix(key, "l")
	if !ok {
		return nil, false
	}
	var l []api.Pair
	for rest != "e" {
		var name, value string
		if name, rest, ok = cutText(rest); !ok || !wantName.MatchString(name) {
			return nil, false
		}
		if value, rest, ok = cutText(rest); !ok || value == "" || len(value) > 64 {
			return nil, false
		}
		if len(l) == 8 || len(l) > 0 && l[len(l)-1].Name >= name {
			return nil, false
		}
		l = append(l, api.Pair{Name: name, Value: value})
	}
	return l, true
}

// checkRead holds Read of any text against the document's words, and what it takes against Key.
func checkRead(t *testing.T, key string) {
	t.Helper()
	got, err := label.Read(key)
	want, ok := wantRead(key)
	if ok != (err == api.OK) || !ok && err != api.ErrForm || !slices.Equal(got, want) {
		t.Errorf("Read(%q) = %q, %d, want %q, %v", key, got, int(err), want, ok)
	}
	if err == api.OK && (label.Key(got) != key || label.Check(got) != api.OK) {
		t.Errorf("Read(%q) = %q, which has the key %q", key, got, label.Key(got))
	}
}

// P2.4: of all short rows, those alone are taken that are laid.
func TestReadAllShortRows(t *testing.T) {
	var grow func(key string)
	grow = func(key string) {
		checkRead(t, key)
		if len(key) == 7 {
			return
		}
		for _, b := range []string{"l", "e", ":", "0", "1", "a"} {
			grow(key + b)
		}
	}
	grow("")
	grow("l1:a")
}

// FuzzRead holds any text against the document's words.
func FuzzRead(f *testing.F) {
	f.Add("l1:a1:11:b1:2e")
	f.Add("le")
	f.Fuzz(checkRead)
}

// allPairs calls do with each list of at most three pairs of these names and values.
func allPairs(names, values []string, do func(l []api.Pair)) {
	var grow func(l []api.Pair)
	grow = func(l []api.Pair) {
		do(slices.Clone(l))
		if len(l) == 3 {
			return
		}
		for _, name := range names {
			for _, value := range values {
				grow(append(slices.Clone(l), api.Pair{Name: name, Value: value}))
			}
		}
	}
	grow(nil)
}

// P2.5: what is sorted is right, holds the same pairs, and reads again from its key.
func TestSortedIsRight(t *testing.T) {
	allPairs([]string{"a", "ab", "b", "_", "B"}, []string{"1", "2", ""}, func(l []api.Pair) {
		sorted, err := label.Sort(l)
		if err != api.OK {
			if label.Check(l) == api.OK {
				t.Errorf("Sort(%q) = %d", l, int(err))
			}
			return
		}
		if label.Check(sorted) != api.OK || len(sorted) != len(l) {
			t.Errorf("Sort(%q) = %q", l, sorted)
		}
		for _, pair := range l {
			if !slices.Contains(sorted, pair) {
				t.Errorf("Sort(%q) = %q", l, sorted)
			}
		}
		if again, err := label.Read(label.Key(sorted)); err != api.OK || !label.Same(again, sorted) {
			t.Errorf("Read(Key(%q)) = %q, %d", sorted, again, int(err))
		}
		if (label.Check(l) == api.OK) != label.Same(l, sorted) {
			t.Errorf("Check(%q) = %d", l, int(label.Check(l)))
		}
	})
}

// P2.5: however pairs stand, sorted they have one key.
func TestSortedHasOneKey(t *testing.T) {
	source := rand.New(rand.NewSource(2))
	for n := range 9 {
		want := label.Key(many(n))
		for range 300 {
			l := many(n)
			source.Shuffle(n, func(i, j int) { l[i], l[j] = l[j], l[i] })
			sorted, err := label.Sort(l)
			if got := label.Key(sorted); err != api.OK || got != want {
				t.Errorf("Key(Sort(%q)) = %q, %d", l, got, int(err))
			}
		}
	}
}

// P2.5: unlike pairs have unlike keys, wrong pairs, too.
func TestUnlikeKeys(t *testing.T) {
	keys := map[string][]api.Pair{}
	allPairs([]string{"", "a", "b", "ab", "1:a"}, []string{"", "1", "2", "1:1", "e"}, func(l []api.Pair) {
		key := label.Key(l)
		if other, ok := keys[key]; ok {
			t.Errorf("%q and %q have the key %q", l, other, key)
		}
		keys[key] = l
	})
}
