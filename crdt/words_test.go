package crdt_test

import (
	"fmt"
	"math/rand"
	"slices"
	"strconv"
	"strings"
	"testing"

	"watchfire/api"
	"watchfire/crdt"
)

// at makes an entry.
func at(key string, time int, origin uint16, value string, until int) api.Entry {
	return api.Entry{Key: key, Time: time, Origin: origin, Value: value, Until: until}
}

// right is an entry that stands, which the tests change.
func right() api.Entry { return at("k", 5, 1, "v", 9) }

// short tells a text as it may stand in a test's message.
func short(s string) string {
	if len(s) > 30 {
		return fmt.Sprintf("%q..%q (%d bytes)", s[:10], s[len(s)-10:], len(s))
	}
	return strconv.Quote(s)
}

// show tells entries, likewise.
func show(l ...api.Entry) string {
	var texts []string
	for _, e := range l[:min(len(l), 12)] {
		texts = append(texts, fmt.Sprintf("{%s %d %d %s %d}", short(e.Key), e.Time, e.Origin, short(e.Value), e.Until))
	}
	return fmt.Sprintf("%d: %s", len(l), strings.Join(texts, " "))
}

// filled makes a map with these entries, of which none has the key of another one.
func filled(t *testing.T, l ...api.Entry) *crdt.Map {
	t.Helper()
	m := crdt.New()
	for _, e := range l {
		if changed, err := m.Put(e); !changed || err != api.OK {
			t.Fatalf("Put(%s) = %v, %d", show(e), changed, int(err))
		}
	}
	return m
}

// numbered makes so many entries, by rising keys.
func numbered(n int) []api.Entry {
	var l []api.Entry
	for i := range n {
		l = append(l, at(fmt.Sprintf("n%03d", i), 5, 1, "v", 9))
	}
	return l
}

// hold holds all that a map tells of itself against the entries that it must have, by rising keys.
func hold(t *testing.T, m *crdt.Map, want ...api.Entry) {
	t.Helper()
	if got := m.List(); !slices.Equal(got, want) {
		t.Errorf("List() = %s, not %s", show(got...), show(want...))
	}
	if got := m.Len(); got != len(want) {
		t.Errorf("Len() = %d, not %d", got, len(want))
	}
	for _, e := range want {
		if got, ok := m.Get(e.Key); !ok || got != e {
			t.Errorf("Get(%s) = %s, %v, not %s", short(e.Key), show(got), ok, show(e))
		}
	}
}

// holdPut holds what Put answers.
func holdPut(t *testing.T, m *crdt.Map, e api.Entry, changes bool, want api.Errno) {
	t.Helper()
	if changed, err := m.Put(e); changed != changes || err != want {
		t.Errorf("Put(%s) = %v, %d, not %v, %d", show(e), changed, int(err), changes, int(want))
	}
}

// wantCheck tells P9.1's words.
func wantCheck(e api.Entry) api.Errno {
	switch {
	case len(e.Key) == 0, len(e.Key) > 1024, len(e.Value) > 8192:
		return api.ErrLong
	case e.Time < 0, e.Time > 1099511627776, e.Until < e.Time, e.Until > 1099511627776:
		return api.ErrTime
	}
	return api.OK
}

// wantAbove tells P9.2's words.
func wantAbove(a, b api.Entry) bool {
	switch {
	case a.Time != b.Time:
		return a.Time > b.Time
	case a.Origin != b.Origin:
		return a.Origin > b.Origin
	case a.Value != b.Value:
		return a.Value > b.Value
	}
	return a.Until > b.Until
}

// model is a map as the chapter's words tell it: a list by rising keys.
type model []api.Entry

// put tells P10.1's words.
func (m *model) put(e api.Entry) (bool, api.Errno) {
	if err := wantCheck(e); err != api.OK {
		return false, err
	}
	place := 0
	for place < len(*m) && (*m)[place].Key < e.Key {
		place++
	}
	switch {
	case place < len(*m) && (*m)[place].Key == e.Key:
		if !wantAbove(e, (*m)[place]) {
			return false, api.OK
		}
		(*m)[place] = e
	case len(*m) == 256:
		return false, api.ErrFull
	default:
		*m = slices.Insert(*m, place, e)
	}
	return true, api.OK
}

// merge tells P10.2's words.
func (m *model) merge(l []api.Entry) int {
	n := 0
	for _, e := range l {
		if changed, _ := m.put(e); changed {
			n++
		}
	}
	return n
}

// view tells P10.3's words of View.
func (m model) view(now int) []api.Entry {
	var l []api.Entry
	for _, e := range m {
		if now < e.Until {
			l = append(l, e)
		}
	}
	return l
}

// delta tells P10.3's words of Delta.
func (m model) delta(l []api.Entry) []api.Entry {
	var told []api.Entry
	for _, e := range m {
		of, below := 0, 0
		for _, other := range l {
			if other.Key != e.Key {
				continue
			}
			of++
			if wantAbove(e, other) {
				below++
			}
		}
		if of == below {
			told = append(told, e)
		}
	}
	return told
}

// forget tells P10.4's words.
func (m *model) forget(now int) int {
	left := m.view(now)
	n := len(*m) - len(left)
	*m = left
	return n
}

// someEntry tells an entry by two numbers: of more unlike keys than a map takes, of which some come more often; some may not be.
func someEntry(x, y byte) api.Entry {
	key := strconv.Itoa(int(x))
	if y >= 128 {
		key += "+"
	}
	switch x {
	case 0:
		key = ""
	case 1:
		key = strings.Repeat("k", 1023+int(y)%3)
	}
	time := int(y) % 4
	// Some end below their Time, which may not be; some at it; some later, by and by.
	until := time + []int{-1, 0, 4, 5, 9, 14}[int(y)/16%6]
	return at(key, time, uint16(y)/4%2, "ab"[:y/8%3], until)
}

// play does what bytes say, three a step, with two maps and with the chapter's words of them, and holds the ones against the others; it tells how often a map was full.
func play(t *testing.T, steps []byte) (full int) {
	m, other := crdt.New(), crdt.New()
	var words, otherWords model
	for ; len(steps) >= 3; steps = steps[3:] {
		switch kind, x, y := steps[0]%16, steps[1], steps[2]; kind {
		case 0:
			if got, want := m.Forget(int(x)%20), words.forget(int(x)%20); got != want {
				t.Fatalf("Forget(%d) = %d, not %d", int(x)%20, got, want)
			}
		case 1:
			other, otherWords = m.Fork(), slices.Clone(words)
		case 2:
			m, other, words, otherWords = other, m, otherWords, words
		case 3:
			l, wantList := m.Delta(other.List()), words.delta(otherWords)
			if !slices.Equal(l, wantList) {
				t.Fatalf("Delta = %s, not %s", show(l...), show(wantList...))
			}
			if got, want := other.Merge(l), otherWords.merge(wantList); got != want {
				t.Fatalf("Merge(%s) = %d, not %d", show(l...), got, want)
			}
		case 4:
			l := []api.Entry{someEntry(x, y), someEntry(y, x), someEntry(x, x), someEntry(x, y), someEntry(x, y+1)}
			if got, want := m.Delta(l), words.delta(l); !slices.Equal(got, want) {
				t.Fatalf("Delta(%s) = %s, not %s", show(l...), show(got...), show(want...))
			}
			if got, want := m.Merge(l), words.merge(l); got != want {
				t.Fatalf("Merge(%s) = %d, not %d", show(l...), got, want)
			}
		default:
			e := someEntry(x, y)
			changed, err := m.Put(e)
			wantChanged, want := words.put(e)
			if changed != wantChanged || err != want {
				t.Fatalf("Put(%s) = %v, %d, not %v, %d", show(e), changed, int(err), wantChanged, int(want))
			}
			if err == api.ErrFull {
				full++
			}
		}
		holdModel(t, m, words, int(steps[2])%20)
		holdModel(t, other, otherWords, int(steps[1])%20)
	}
	return full
}

// holdModel holds all that a map tells against the chapter's words.
func holdModel(t *testing.T, m *crdt.Map, words model, now int) {
	t.Helper()
	hold(t, m, words...)
	if got, want := m.View(now), words.view(now); !slices.Equal(got, want) {
		t.Errorf("View(%d) = %s, not %s", now, show(got...), show(want...))
	}
	if t.Failed() {
		t.FailNow()
	}
}

// P10.1 to P10.4: long rows of steps, against the chapter's words.
func TestPlay(t *testing.T) {
	source, full := rand.New(rand.NewSource(10)), 0
	for row := range 20 {
		steps := make([]byte, 3*1000)
		source.Read(steps)
		// In half of the rows little is forgotten, so that maps fill up.
		for i := 0; row%2 == 0 && i < len(steps); i += 3 {
			if steps[i]%16 == 0 {
				steps[i+1] = 0
			}
		}
		full += play(t, steps)
	}
	if full < 50 {
		t.Errorf("maps were full %d times: the rows say too little", full)
	}
}

// FuzzMap holds any row of steps against the chapter's words.
func FuzzMap(f *testing.F) {
	f.Add([]byte{5, 7, 100, 5, 7, 101, 0, 9, 0})
	f.Add([]byte{5, 7, 70, 1, 0, 0, 5, 41, 90, 2, 0, 0, 5, 7, 255, 3, 0, 0, 2, 0, 0, 3, 0, 0, 4, 9, 9})
	f.Fuzz(func(t *testing.T, steps []byte) { play(t, steps[:min(len(steps), 1500)]) })
}
