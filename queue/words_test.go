package queue_test

import (
	"fmt"
	"math"
	"math/rand"
	"slices"
	"strconv"
	"strings"
	"testing"

	"watchfire/api"
	"watchfire/queue"
)

const most = 1 << 40

// at makes an entry.
func at(key string, time int, origin uint16, value string, until int) api.Entry {
	return api.Entry{Key: key, Time: time, Origin: origin, Value: value, Until: until}
}

// named makes an entry of 16 bytes more than its key's, if that has less than ten.
func named(key string) api.Entry { return at(key, 5, 1, "v", 9) }

// again makes an entry that is above that of named.
func again(key string) api.Entry { return at(key, 6, 1, "v", 9) }

// sized makes an entry that has just so many bytes.
func sized(t testing.TB, key string, bytes int) api.Entry {
	t.Helper()
	for n := range 8193 {
		if e := at(key, 5, 1, xs(n), 9); wantSize(e) == bytes {
			return e
		}
	}
	t.Fatalf("no entry of %d bytes", bytes)
	return api.Entry{}
}

// xs tells a text of so many bytes.
func xs(n int) string { return strings.Repeat("x", n) }

// show tells entries as they may stand in a test's message.
func show(l ...api.Entry) string {
	var texts []string
	for _, e := range l[:min(len(l), 12)] {
		texts = append(texts, fmt.Sprintf("{%.12q %d %d %.12q (%d bytes) %d}", e.Key, e.Time, e.Origin, e.Value, len(e.Value), e.Until))
	}
	return fmt.Sprintf("%d: %s", len(l), strings.Join(texts, " "))
}

// showItems tells items, likewise.
func showItems(l []queue.Item) string {
	var texts []string
	for _, item := range l {
		texts = append(texts, fmt.Sprintf("%.12q sent %d seq %d", item.Entry.Key, item.Sent, item.Seq))
	}
	return fmt.Sprintf("%d: %s", len(l), strings.Join(texts, ", "))
}

// numbered makes so many entries of one size.
func numbered(n int) []api.Entry {
	var l []api.Entry
	for i := range n {
		l = append(l, named(fmt.Sprintf("n%03d", i)))
	}
	return l
}

// filled makes a queue with these pushed, one behind the other.
func filled(t testing.TB, l ...api.Entry) *queue.Queue {
	t.Helper()
	q := queue.New()
	for _, e := range l {
		if !q.Push(e) {
			t.Fatalf("Push(%s) = false", show(e))
		}
	}
	return q
}

// hold holds what a queue tells of itself against what it must have, in the order of P14.3.
func hold(t *testing.T, q *queue.Queue, lost int, want ...queue.Item) {
	t.Helper()
	if got := q.List(); !slices.Equal(got, want) {
		t.Errorf("List() = %s, not %s", showItems(got), showItems(want))
	}
	if got := q.Len(); got != len(want) {
		t.Errorf("Len() = %d, not %d", got, len(want))
	}
	if got := q.Lost(); got != lost {
		t.Errorf("Lost() = %d, not %d", got, lost)
	}
}

// holdPush holds what Push answers.
func holdPush(t *testing.T, q *queue.Queue, e api.Entry, want bool) {
	t.Helper()
	if got := q.Push(e); got != want {
		t.Errorf("Push(%s) = %v", show(e), got)
	}
}

// holdTake holds what Take answers.
func holdTake(t *testing.T, q *queue.Queue, room, limit int, want ...api.Entry) {
	t.Helper()
	if got := q.Take(room, limit); !slices.Equal(got, want) {
		t.Errorf("Take(%d, %d) = %s, not %s", room, limit, show(got...), show(want...))
	}
}

// wantLimit tells P14.1's words.
func wantLimit(nodes int) int {
	if nodes < 1 {
		return 3
	}
	return 3 * len(strconv.FormatInt(int64(nodes), 2))
}

// wantSize tells P13.3's and P9.3's words.
func wantSize(e api.Entry) int {
	return len(fmt.Sprintf("l%d:%si%dei%de%d:%si%dee", len(e.Key), e.Key, e.Time, e.Origin, len(e.Value), e.Value, e.Until))
}

// mayBe tells P9.1's words.
func mayBe(e api.Entry) bool {
	return e.Key != "" && len(e.Key) <= 1024 && len(e.Value) <= 8192 && e.Time >= 0 && e.Time <= most && e.Until >= e.Time && e.Until <= most
}

// wantAbove tells P9.2's words.
func wantAbove(a, b api.Entry) bool {
	switch {
	case a.Time != b.Time:
		return a.Time > b.Time
	case a.Origin != b.Origin:
		return a.Origin > b.Origin
	case a.Value != b.Value:
		return a.Value > b.Value
	}
	return a.Until > b.Until
}

// model is a queue as the chapter's words tell it; its items are by rising Seq.
type model struct {
	items  []queue.Item
	pushes int
	lost   int
}

// fork tells a model of its own.
func (m model) fork() model {
	m.items = slices.Clone(m.items)
	return m
}

// push tells P14.2's words.
func (m *model) push(e api.Entry) bool {
	if !mayBe(e) {
		return false
	}
	for place, item := range m.items {
		if item.Entry.Key != e.Key {
			continue
		}
		if !wantAbove(e, item.Entry) {
			return false
		}
		m.items = slices.Delete(m.items, place, place+1)
		break
	}
	m.items = append(m.items, queue.Item{Entry: e, Seq: m.pushes})
	m.pushes++
	if len(m.items) > 32 {
		worst := 0
		for place, item := range m.items {
			if item.Sent > m.items[worst].Sent {
				worst = place
			}
		}
		m.items = slices.Delete(m.items, worst, worst+1)
		m.lost++
	}
	return true
}

// list tells P14.3's order, of P14.4's List.
func (m model) list() []queue.Item {
	var l []queue.Item
	for sent := 0; len(l) < len(m.items); sent++ {
		for _, item := range slices.Backward(m.items) {
			if item.Sent == sent {
				l = append(l, item)
			}
		}
	}
	return l
}

// take tells P14.3's words.
func (m *model) take(room, limit int) []api.Entry {
	var told []api.Entry
	left := room
	if left < 0 {
		left = 0
	}
	for _, item := range m.list() {
		if size := wantSize(item.Entry); size <= left {
			left -= size
			told = append(told, item.Entry)
			place := slices.Index(m.items, item)
			m.items[place].Sent++
		}
	}
	var rest []queue.Item
	for _, item := range m.items {
		if item.Sent < limit {
			rest = append(rest, item)
		}
	}
	m.items = rest
	return told
}

// someEntry tells an entry by two numbers: of some 70 keys, several of each, and of several sizes; some may not be.
func someEntry(x, y byte) api.Entry {
	key := strconv.Itoa(int(x) % 70)
	if x == 255 {
		key = ""
	}
	value := []string{"", "a", "b", xs(40), xs(300), xs(1100)}[int(y)/16%6]
	if y == 255 {
		value = xs(8193)
	}
	time := int(y) % 8
	return at(key, time, uint16(y)/8%2, value, time+9-int(x)/250*8)
}

// someRoom tells a room by a number: none at all, a few entries', all entries', and others.
func someRoom(x byte) int {
	return []int{int(x), 0, -1, math.MinInt, 17, 18, 19, 36, 100, 500, 1024, 1200, 4000, 1 << 20, 1 << 40, math.MaxInt}[x%16]
}

// play does what bytes say, three a step, with two queues and with the chapter's words of them, and holds the ones against the others; it tells how many items were lost.
func play(t *testing.T, steps []byte) int {
	q, other := queue.New(), queue.New()
	var words, otherWords model
	for ; len(steps) >= 3; steps = steps[3:] {
		switch kind, x, y := steps[0]%16, steps[1], steps[2]; kind {
		case 0:
			other, otherWords = q.Fork(), words.fork()
		case 1:
			q, other, words, otherWords = other, q, otherWords, words
		case 2, 3:
			room, limit := someRoom(x), int(y)%10-1
			if got, want := q.Take(room, limit), words.take(room, limit); !slices.Equal(got, want) {
				t.Fatalf("Take(%d, %d) = %s, not %s", room, limit, show(got...), show(want...))
			}
		case 4, 5, 6:
			room := someRoom(x)
			if got, want := q.Take(room, 8), words.take(room, 8); !slices.Equal(got, want) {
				t.Fatalf("Take(%d, 8) = %s, not %s", room, show(got...), show(want...))
			}
		default:
			e := someEntry(x, y)
			if got, want := q.Push(e), words.push(e); got != want {
				t.Fatalf("Push(%s) = %v", show(e), got)
			}
		}
		hold(t, q, words.lost, words.list()...)
		hold(t, other, otherWords.lost, otherWords.list()...)
		if t.Failed() {
			t.FailNow()
		}
	}
	return words.lost
}

// P14.2 to P14.4: long rows of steps, against the chapter's words.
func TestPlay(t *testing.T) {
	source, lost := rand.New(rand.NewSource(14)), 0
	for row := range 40 {
		steps := make([]byte, 3*1000)
		source.Read(steps)
		// In half of the rows no limit is low, so that queues fill up.
		for i := 0; row%2 == 0 && i < len(steps); i += 3 {
			if kind := steps[i] % 16; kind == 2 || kind == 3 {
				steps[i] += 2
			}
		}
		lost += play(t, steps)
	}
	if lost < 500 {
		t.Errorf("%d items were lost: the rows say too little", lost)
	}
}

// FuzzQueue holds any row of steps against the chapter's words.
func FuzzQueue(f *testing.F) {
	f.Add([]byte{7, 7, 100, 7, 8, 101, 4, 13, 0, 7, 7, 103, 2, 4, 2})
	f.Add([]byte{7, 7, 70, 0, 0, 0, 7, 41, 90, 1, 0, 0, 7, 7, 255, 3, 8, 3, 1, 0, 0, 4, 10, 0, 7, 255, 9})
	f.Fuzz(func(t *testing.T, steps []byte) { play(t, steps[:min(len(steps), 1500)]) })
}
