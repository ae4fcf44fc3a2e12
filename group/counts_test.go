package group_test

import (
	"fmt"
	"regexp"
	"slices"
	"strconv"
	"strings"
	"testing"

	"watchfire/api"
	"watchfire/group"
)

var (
	aLength = regexp.MustCompile(`^(0|[1-9][0-9]{0,8}):`)
	aNumber = regexp.MustCompile(`^i([01])e`)
)

// wantCounts tells P8.4's words: what is left of a list must begin with a text and a nought or a one, again and again, and end in its e alone.
func wantCounts(s string) (firing, resolved int) {
	s, isList := strings.CutPrefix(s, "l")
	if !isList {
		return 0, 0
	}
	for s != "e" {
		length := aLength.FindStringSubmatch(s)
		if length == nil {
			return 0, 0
		}
		n, _ := strconv.Atoi(length[1])
		if s = s[len(length[0]):]; n > len(s) {
			return 0, 0
		}
		s = s[n:]
		switch number := aNumber.FindStringSubmatch(s); {
		case number == nil:
			return 0, 0
		case number[1] == "1":
			firing++
		default:
			resolved++
		}
		s = s[len("i0e"):]
	}
	return firing, resolved
}

// holdCounts holds what Counts answers against what is wanted, and against the chapter's words.
func holdCounts(t *testing.T, revision string, wantFiring, wantResolved int) {
	t.Helper()
	if firing, resolved := group.Counts(revision); firing != wantFiring || resolved != wantResolved {
		t.Errorf("Counts(%.80q) = %d, %d, not %d, %d", revision, firing, resolved, wantFiring, wantResolved)
	}
	if firing, resolved := wantCounts(revision); firing != wantFiring || resolved != wantResolved {
		t.Errorf("Counts(%.80q), by words: %d, %d, not %d, %d", revision, firing, resolved, wantFiring, wantResolved)
	}
}

// holdWords holds what Counts answers against the chapter's words.
func holdWords(t *testing.T, revision string) (firing, resolved int) {
	firing, resolved = group.Counts(revision)
	if wantFiring, wantResolved := wantCounts(revision); firing != wantFiring || resolved != wantResolved {
		t.Fatalf("Counts(%q) = %d, %d, not %d, %d", revision, firing, resolved, wantFiring, wantResolved)
	}
	return firing, resolved
}

// P8.4: texts that Revision may tell.
func TestCounts(t *testing.T) {
	holdCounts(t, "l8:l1:a1:1ei1ee", 1, 0)
	holdCounts(t, "l8:l1:a1:1ei0ee", 0, 1)
	holdCounts(t, "l8:l1:a1:1ei1e8:l1:b1:2ei0ee", 1, 1)
	holdCounts(t, "l8:l1:a1:1ei0e8:l1:a1:1ei1e8:l1:b1:2ei1ee", 2, 1)
	holdCounts(t, "l2:lei0ee", 0, 1)
	holdCounts(t, "l8:l1:a1:1ei1e8:l1:a1:1ei1ee", 2, 0)
}

// P8.4: texts and numbers by turns, whatever the texts are: what looks like a number, or like an end, within them is none.
func TestCountsOfAnyTexts(t *testing.T) {
	holdCounts(t, "l0:i1ee", 1, 0)
	holdCounts(t, "l0:i0e0:i0ee", 0, 2)
	holdCounts(t, "l1:ai1ee", 1, 0)
	holdCounts(t, "l1:bi1e1:ai0ee", 1, 1)
	holdCounts(t, "l3:i1ei0ee", 0, 1)
	holdCounts(t, "l7:i1e0:i1i0ee", 0, 1)
	holdCounts(t, "l2:eei1ee", 1, 0)
	holdCounts(t, "l3:\x00\xff:i1ee", 1, 0)
	holdCounts(t, "l2000:"+strings.Repeat("x", 2000)+"i1ee", 1, 0)
	holdCounts(t, "l1000000:"+strings.Repeat("e", 1_000_000)+"i0ee", 0, 1)
}

// P8.4: other texts: nothing is counted, however much of them is right.
func TestCountsOfOthers(t *testing.T) {
	right := "l8:l1:a1:1ei1e8:l1:b1:2ei0ee"
	holdCounts(t, right, 1, 1)
	for says, others := range map[string][]string{
		"nothing":             {""},
		"a list of nothing":   {"le"},
		"no list":             {"e", "i1e", "i0e", "8:l1:a1:1e", "8:l1:a1:1ei1e", "8:l1:a1:1ei1ee", " " + right, "\x00" + right, "L" + right[1:]},
		"bytes behind it":     {right + "e", right + " ", right + "\x00", right + "l", right + right, right + "i1e", right + "0:i1e", "lee", "lele"},
		"another number":      {"l1:ai2ee", "l1:ai-1ee", "l1:ai10ee", "l1:ai11ee", "l1:ai1e1:bi2ee", "l1:ai9223372036854775807ee", "l1:ai-9223372036854775808ee", "l1:ai4294967296ee", "l1:ai4294967297ee", "l1:ai256ee", "l1:ai257ee"},
		"no number":           {"l1:aiee", "l1:ai-ee", "l1:ai-0ee", "l1:ai00ee", "l1:ai01ee", "l1:ai+1ee", "l1:ai 1ee", "l1:ai1 ee", "l1:aixee", "l1:aI1ee", "l1:a1ee", "l1:ai18446744073709551616ee", "l1:ai18446744073709551617ee", "l1:ai" + strings.Repeat("0", 30) + "ee"},
		"two texts":           {"l1:a1:bi1ee", "l1:a1:be", "l1:ai1e1:b1:ci1ee", "l1:a1:bi1ei1ee", "l1:ai1e1:b1:ce"},
		"two numbers":         {"l1:ai1ei1ee", "l1:ai1ei0ee", "l1:ai1e1:bi0ei0ee", "li1ei1ee", "l1:ai1ei1e1:be"},
		"a number first":      {"li1ee", "li1e1:ae", "li1e1:ai1ee", "li0e1:ai1e1:be"},
		"a text alone":        {"l1:ae", "l1:ai1e1:be", "l8:l1:a1:1ee"},
		"lists within it":     {"llee", "l1:aleee", "lle1:ai1ee", "l1:ali1eee", "ll1:ai1eee", "l1:ai1elee", "l" + right + "e"},
		"lengths":             {"l01:ai1ee", "l-1:ai1ee", "l+1:ai1ee", "l:ai1ee", "l2:ai1ee", "l9:ai1ee", "l1000000000:ai1ee", "l1000000001:ai1ee", "l99999999999:ai1ee", "l18446744073709551617:ai1ee", "l1 :ai1ee", "l1ai1ee", "l1.ai1ee"},
		"a group's key":       {group.Key(1, pairs("a=1")), group.Key(1, nil)},
		"labels' own key":     {labelKey(pairs("a=1"))},
		"words":               {"revision", "1", "0", "\xff", "{}", "l", "i", ":", "ll", "li", "l1", "l1:", strings.Repeat("l", 100_000), strings.Repeat("e", 100_000), "l" + strings.Repeat("9", 100_000), "l1:ai" + strings.Repeat("1", 100_000)},
		"one end for another": {"l1:ai1:e", "l1eai1ee", "l1:ai1el", "l1:ai1e1"},
	} {
		t.Run(says, func(t *testing.T) {
			for _, other := range others {
				holdCounts(t, other, 0, 0)
			}
		})
	}
}

// P8.4: a text that is cut off, at each place, and one that has any byte behind it.
func TestCountsOfCut(t *testing.T) {
	right := group.Revision([]api.Alert{from(1, 5, "a=1"), from(1, 2, "a=10", "b=2"), from(1, 5, "c=3")}, 3)
	holdCounts(t, right, 2, 1)
	for i := range right {
		holdCounts(t, right[:i], 0, 0)
		if i > 0 {
			holdCounts(t, right[i:], 0, 0)
		}
	}
	for b := range 256 {
		holdCounts(t, right+string([]byte{byte(b)}), 0, 0)
		holdCounts(t, string([]byte{byte(b)})+right, 0, 0)
	}
}

// P8.4: what Revision tells: as many ones as fire, as many noughts as do not.
func TestCountsOfRevision(t *testing.T) {
	for firing := range 70 {
		for _, resolved := range []int{0, 1, 2, 7, 64} {
			var alerts []api.Alert
			for i := range firing {
				alerts = append(alerts, from(0, 10, fmt.Sprint("a=", i)))
			}
			for i := range resolved {
				alerts = append(alerts, from(0, 5, fmt.Sprint("a=", i), "b=1"))
			}
			holdCounts(t, group.Revision(alerts, 5), firing, resolved)
		}
	}
	for _, labels := range [][]api.Pair{nil, pairs("="), pairs("a="), pairs("b=2", "a=1"), pairs("a=1", "a=1"), pairs("e=i1e", "le=i0ee")} {
		holdCounts(t, group.Revision([]api.Alert{{Labels: labels, End: 1}, {Labels: labels}}, 0), 1, 1)
	}
}

// P8.4: a text that Revision tells, with each of its bytes changed, left out, or doubled, against the chapter's words.
func TestCountsOfChanged(t *testing.T) {
	right := []byte(group.Revision([]api.Alert{from(1, 5, "a=1"), from(1, 2, "b=10")}, 3))
	for i := range right {
		for b := range 256 {
			changed := slices.Clone(right)
			changed[i] = byte(b)
			holdWords(t, string(changed))
			holdWords(t, string(slices.Insert(slices.Clone(right), i, byte(b))))
		}
		holdWords(t, string(slices.Delete(slices.Clone(right), i, i+1)))
	}
}

// rows calls do with each row of at most so many parts.
func rows(parts []string, most int, do func(s string)) {
	var grow func(s string, n int)
	grow = func(s string, n int) {
		do(s)
		if n == most {
			return
		}
		for _, part := range parts {
			grow(s+part, n+1)
		}
	}
	grow("", 0)
}

// P8.4: all short rows of bytes, and of whole parts, against the chapter's words.
func TestCountsWords(t *testing.T) {
	some := 0
	hold := func(s string) {
		if firing, resolved := holdWords(t, s); firing+resolved > 0 {
			some++
		}
	}
	rows(strings.Split("leia01:", ""), 7, hold)
	rows(strings.Split("l e 0: 1:a 3: i0e i1e i2e i-1e i", " "), 6, hold)
	if some < 50 {
		t.Errorf("%d rows are revisions: the rows say too little", some)
	}
}

// FuzzCounts holds what Counts tells of any text against the chapter's words.
func FuzzCounts(f *testing.F) {
	f.Add("l8:l1:a1:1ei1e8:l1:b1:2ei0ee")
	f.Add("l0:i0e1:ai1e2:lei1ee")
	f.Add("le")
	f.Fuzz(func(t *testing.T, s string) { holdWords(t, s) })
}
