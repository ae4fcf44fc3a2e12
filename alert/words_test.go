package alert_test

import (
	"cmp"
	"math/rand"
	"slices"
	"testing"

	"watchfire/alert"
	"watchfire/api"
	"watchfire/label"
)

// wantMerged tells P7.1's words of two alerts of one label, by the ticks that each has from its Start up to its End, with both.
func wantMerged(old, a api.Alert) api.Alert {
	ticks := map[int]int{}
	for _, one := range []api.Alert{old, a} {
		for tick := one.Start; tick <= one.End; tick++ {
			ticks[tick]++
		}
	}
	first, shared := a.Start, false
	for tick, n := range ticks {
		first = min(first, tick)
		shared = shared || n == 2
	}
	if !shared {
		first = a.Start
	}
	return api.Alert{Labels: a.Labels, Start: first, End: a.End}
}

// P7.1: all rows of three short times of one label, against the chapter's words.
func TestPutWords(t *testing.T) {
	const last = 7
	var spans []api.Alert
	for start := range last {
		for end := start + 1; end <= last; end++ {
			spans = append(spans, from(start, end, "a=1"))
		}
	}
	for _, one := range spans {
		for _, two := range spans {
			s := filled(t, one, two)
			both := wantMerged(one, two)
			hold(t, s, both)
			for _, three := range spans {
				f := s.Fork()
				if err := f.Put(three); err != api.OK {
					t.Fatal(int(err))
				}
				if got, _ := f.Get("l1:a1:1e"); !sameAlert(got, wantMerged(both, three)) {
					t.Fatalf("%v, %v, %v: %v", one, two, three, got)
				}
			}
		}
	}
}

// model is a store as the chapter's words tell it: a list, in no order.
type model []api.Alert

// put tells P7.1 for alerts whose labels may be.
func (m *model) put(a api.Alert) api.Errno {
	at := slices.IndexFunc(*m, func(b api.Alert) bool { return slices.Equal(a.Labels, b.Labels) })
	switch {
	case len(a.Labels) == 0:
		return api.ErrName
	case a.Start < 0 || a.Start >= a.End || a.End > 1<<40:
		return api.ErrTime
	case at < 0 && len(*m) == 64:
		return api.ErrFull
	case at < 0:
		*m = append(*m, a)
	default:
		(*m)[at] = wantMerged((*m)[at], a)
	}
	return api.OK
}

// drop tells P7.3's Drop.
func (m *model) drop(before int) int {
	var left model
	for _, a := range *m {
		if !(a.End < before) {
			left = append(left, a)
		}
	}
	n := len(*m) - len(left)
	*m = left
	return n
}

// sorted tells the alerts by rising keys.
func (m model) sorted() []api.Alert {
	type keyed struct {
		key string
		a   api.Alert
	}
	var all []keyed
	for _, a := range m {
		all = append(all, keyed{label.Key(a.Labels), a})
	}
	slices.SortFunc(all, func(a, b keyed) int { return cmp.Compare(a.key, b.key) })
	var l []api.Alert
	for _, one := range all {
		l = append(l, one.a)
	}
	return l
}

// wantFiring tells those that fire, in their order.
func wantFiring(all []api.Alert, now int) []api.Alert {
	var l []api.Alert
	for _, a := range all {
		for tick := a.Start; tick < a.End; tick++ {
			if tick == now {
				l = append(l, a)
			}
		}
	}
	return l
}

// someLabels tells labels by a number: more unlike ones than a store takes.
func someLabels(n byte) []api.Pair {
	value := string([]byte{'0' + n/4%32})
	switch n % 4 {
	case 0:
		return pairs("a=" + value)
	case 1:
		return pairs("a="+value, "b=1")
	case 2:
		return pairs("bb=" + value + value)
	}
	return pairs("a=" + value)[:n/128]
}

// play does what bytes say, three a step, with a store and with the chapter's words, and holds one against the other; it tells how often the store was full.
func play(t *testing.T, steps []byte) (full int) {
	s, m := alert.New(), model{}
	var old *alert.Store
	var oldModel model
	for ; len(steps) >= 3; steps = steps[3:] {
		switch kind, x, y := steps[0]%16, steps[1], steps[2]; kind {
		case 0:
			if got, want := s.Drop(int(x)%40), m.drop(int(x)%40); got != want {
				t.Fatalf("Drop(%d) = %d, not %d", int(x)%40, got, want)
			}
		case 1:
			old, oldModel = s.Fork(), slices.Clone(m)
		case 2:
			if old != nil {
				s, old, m, oldModel = old, s, oldModel, m
			}
		default:
			a := api.Alert{Labels: someLabels(x), Start: int(y)%32 - 1, End: int(y)%32 + int(y)/32 - 1}
			got, want := s.Put(a), m.put(a)
			if got != want {
				t.Fatalf("Put(%v) = %d, not %d", a, int(got), int(want))
			}
			if got == api.ErrFull {
				full++
			}
		}
		holdModel(t, s, m, int(steps[2])%40)
		if old != nil {
			holdModel(t, old, oldModel, int(steps[1])%40)
		}
	}
	return full
}

// holdModel holds all that a store tells against the chapter's words.
func holdModel(t *testing.T, s *alert.Store, m model, now int) {
	t.Helper()
	all := m.sorted()
	hold(t, s, all...)
	if got, want := s.Firing(now), wantFiring(all, now); !slices.EqualFunc(got, want, sameAlert) {
		t.Errorf("Firing(%d) = %v, not %v", now, got, want)
	}
	if t.Failed() {
		t.FailNow()
	}
}

// P7.1 to P7.4: long rows of steps, against the chapter's words.
func TestPlay(t *testing.T) {
	source, full := rand.New(rand.NewSource(7)), 0
	for row := range 60 {
		steps := make([]byte, 750)
		source.Read(steps)
		// In half of the rows drops are so early that stores fill up.
		for i := 0; row%2 == 0 && i < len(steps); i += 3 {
			if steps[i]%16 == 0 {
				steps[i+1] %= 4
			}
		}
		full += play(t, steps)
	}
	if full < 50 {
		t.Errorf("stores were full %d times: the rows say too little", full)
	}
}

// FuzzStore holds any row of steps against the chapter's words.
func FuzzStore(f *testing.F) {
	f.Add([]byte{3, 0, 100, 3, 0, 200, 0, 9, 0})
	f.Add([]byte{3, 1, 70, 1, 0, 0, 3, 41, 90, 2, 0, 0, 3, 1, 255})
	f.Fuzz(func(t *testing.T, steps []byte) { play(t, steps[:min(len(steps), 900)]) })
}
