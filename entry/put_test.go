package entry_test

import (
	"math"
	"strings"
	"testing"

	"watchfire/api"
	"watchfire/entry"
)

// P9.3: entries and their bytes, written out; ones that may not be are laid, too.
func TestPut(t *testing.T) {
	long := strings.Repeat("x", 12345)
	for _, try := range []struct {
		e    api.Entry
		want string
	}{
		{right(), "l1:ki5ei1e1:vi9ee"},
		{api.Entry{}, "l0:i0ei0e0:i0ee"},
		{api.Entry{Key: "k"}, "l1:ki0ei0e0:i0ee"},
		{api.Entry{Time: 7}, "l0:i7ei0e0:i0ee"},
		{api.Entry{Origin: 7}, "l0:i0ei7e0:i0ee"},
		{api.Entry{Value: "k"}, "l0:i0ei0e1:ki0ee"},
		{api.Entry{Until: 7}, "l0:i0ei0e0:i7ee"},
		{api.Entry{Key: "nl1:r1:ge", Time: 1 << 40, Origin: 65535, Value: "l8:l1:a1:1ei1ee", Until: 1 << 40}, "l9:nl1:r1:gei1099511627776ei65535e15:l8:l1:a1:1ei1eei1099511627776ee"},
		{api.Entry{Key: "\x00\xff", Time: 10, Origin: 256, Value: "\u00e4e", Until: 100}, "l2:\x00\xffi10ei256e3:\xc3\xa4ei100ee"},
		{api.Entry{Key: "k", Time: -1, Until: -20}, "l1:ki-1ei0e0:i-20ee"},
		{api.Entry{Key: "k", Time: 9, Until: 5}, "l1:ki9ei0e0:i5ee"},
		{api.Entry{Time: math.MinInt, Until: math.MaxInt}, "l0:i-9223372036854775808ei0e0:i9223372036854775807ee"},
		{api.Entry{Key: long, Value: long}, "l12345:" + long + "i0ei0e12345:" + long + "i0ee"},
	} {
		if got := string(entry.Put(try.e)); got != try.want {
			t.Errorf("Put(%s) = %s, not %s", show(try.e), short(got), short(try.want))
		}
	}
}

// P9.3: many entries, against the chapter's words; each origin once.
func TestPutWords(t *testing.T) {
	all := append(grid(), keyOf(1024), keyOf(1025), valueOf(8192), valueOf(8193))
	for origin := range 1 << 16 {
		all = append(all, changed(func(e *api.Entry) { e.Origin = uint16(origin) }))
	}
	for _, e := range all {
		if got, want := string(entry.Put(e)), wantPut(e); got != want {
			t.Fatalf("Put(%s) = %s, not %s", show(e), short(got), short(want))
		}
	}
}

// P9.3: unlike entries have unlike bytes, whatever their texts look like.
func TestPutOnce(t *testing.T) {
	texts := []string{"", "k", "1:k", "0:", "i5e", "e", "l", "i5ei1e1:vi9ee", "1:ki5e"}
	of := map[string]api.Entry{}
	for _, key := range texts {
		for _, value := range texts {
			for _, time := range []int{-5, 0, 5, 15} {
				for _, until := range []int{-1, 1, 11} {
					e := api.Entry{Key: key, Time: time, Origin: uint16(until), Value: value, Until: until}
					b := string(entry.Put(e))
					if other, there := of[b]; there {
						t.Fatalf("%s and %s have the same bytes: %s", show(e), show(other), short(b))
					}
					of[b] = e
				}
			}
		}
	}
}

// Rule 3: the bytes are new memory, with their spare room.
func TestPutSharesNothing(t *testing.T) {
	first, second := entry.Put(right()), entry.Put(right())
	all := first[:cap(first)]
	for i := range all {
		all[i] = '#'
	}
	if string(second) != "l1:ki5ei1e1:vi9ee" || string(entry.Put(right())) != "l1:ki5ei1e1:vi9ee" {
		t.Errorf("the bytes changed with others: %q", second)
	}
}
