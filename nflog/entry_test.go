package nflog_test

import (
	"math"
	"testing"

	"watchfire/api"
	"watchfire/entry"
	"watchfire/nflog"
)

// P12.2: a sending and its entry, written out.
func TestEntry(t *testing.T) {
	holdEntry(t, right(), 1, 100, api.Entry{Key: "nl1:r1:ge", Time: 5, Origin: 1, Value: fire, Until: 105}, api.OK)
	holdEntry(t, right(), 0, 0, api.Entry{Key: "nl1:r1:ge", Time: 5, Value: fire, Until: 5}, api.OK)
	holdEntry(t, api.Send{Receiver: "page", Key: "li0e3:job1:xe", At: 1 << 32}, 65535, 1<<33, api.Entry{Key: "nl4:page13:li0e3:job1:xee", Time: 1 << 32, Origin: 65535, Until: 3 << 32}, api.OK)
	holdEntry(t, api.Send{Receiver: "\x00", Key: "\xff", Revision: "no revision"}, 7, 1, api.Entry{Key: "nl1:\x001:\xffe", Origin: 7, Value: "no revision", Until: 1}, api.OK)
}

// P12.2: what may be is told, at each edge, and stands as an entry (P9.1).
func TestEntryStands(t *testing.T) {
	for _, s := range some() {
		for _, keep := range []int{0, 1, 1 << 32, most - s.At - 1, most - s.At} {
			want, wantErr := wantEntry(s, 65535, keep)
			holdEntry(t, s, 65535, keep, want, wantErr)
			if err := entry.Check(want); wantErr == api.OK && err != api.OK {
				t.Errorf("entry.Check(%s) = %d", showEntry(want), int(err))
			}
		}
		tell(t, s, 1, 0)
		tell(t, s, 1, most-s.At)
	}
}

// P12.2: no Receiver, or no Key, though both are told in a key.
func TestEntryOfEmpty(t *testing.T) {
	for _, s := range []api.Send{{}, to("", ""), to("", "g"), to("r", ""), {Revision: fire, At: 5}, {Receiver: "r"}, {Key: "g"}} {
		holdEntry(t, s, 1, 100, api.Entry{}, api.ErrArg)
	}
	holdEntry(t, to("\x00", "\x00"), 1, 0, api.Entry{Key: "nl1:\x001:\x00e", Time: 5, Origin: 1, Value: fire, Until: 5}, api.OK)
	holdEntry(t, to(" ", "0"), 1, 0, api.Entry{Key: "nl1: 1:0e", Time: 5, Origin: 1, Value: fire, Until: 5}, api.OK)
}

// P12.2: a Key of both of 1024 bytes, and of more.
func TestEntryOfLongKeys(t *testing.T) {
	for _, s := range []api.Send{to("r", xs(1013)), to(xs(1013), "g"), to(xs(500), xs(513)), to(xs(999), xs(15)), to(xs(15), xs(999))} {
		if key := wantKey(s.Receiver, s.Key); len(key) != 1024 {
			t.Fatalf("a key of %d bytes", len(key))
		}
		holdEntry(t, s, 1, 100, api.Entry{Key: wantKey(s.Receiver, s.Key), Time: 5, Origin: 1, Value: fire, Until: 105}, api.OK)
		for _, more := range []int{1, 2, 1000, 1_000_000} {
			holdEntry(t, to(s.Receiver+xs(more), s.Key), 1, 100, api.Entry{}, api.ErrLong)
			holdEntry(t, to(s.Receiver, s.Key+xs(more)), 1, 100, api.Entry{}, api.ErrLong)
		}
	}
	// Neither text is too long alone: what is laid around them counts, too.
	for _, s := range []api.Send{to(xs(1024), "g"), to("r", xs(1024)), to("r", xs(1023)), to("r", xs(1014)), to(xs(512), xs(512)), to(xs(505), xs(509))} {
		holdEntry(t, s, 1, 100, api.Entry{}, api.ErrLong)
	}
	for n := range 1100 {
		for _, s := range []api.Send{to(xs(n), "g"), to("r", xs(n)), to(xs(n), xs(n/2)), to(xs(n/3), xs(n))} {
			want, err := wantEntry(s, 1, 100)
			holdEntry(t, s, 1, 100, want, err)
		}
	}
}

// P12.2: a Revision of 8192 bytes, and of more; the Key's length is asked apart.
func TestEntryOfLongRevisions(t *testing.T) {
	for _, n := range []int{0, 1, 1024, 1025, 8191, 8192} {
		holdEntry(t, says(xs(n)), 1, 100, api.Entry{Key: "nl1:r1:ge", Time: 5, Origin: 1, Value: xs(n), Until: 105}, api.OK)
	}
	for _, n := range []int{8193, 8194, 16384, 1_000_000} {
		holdEntry(t, says(xs(n)), 1, 100, api.Entry{}, api.ErrLong)
	}
	long := api.Send{Receiver: "r", Key: xs(1013), Revision: xs(8192), At: 5}
	holdEntry(t, long, 1, 0, api.Entry{Key: wantKey("r", xs(1013)), Time: 5, Origin: 1, Value: xs(8192), Until: 5}, api.OK)
}

// P12.2: At and keep below 0, and both together at the highest time and above it, each of them above it alone, too.
func TestEntryTimes(t *testing.T) {
	for _, try := range []struct {
		at, keep int
		want     api.Errno
	}{
		{0, 0, api.OK}, {0, most, api.OK}, {most, 0, api.OK}, {5, most - 5, api.OK}, {most - 1, 1, api.OK}, {most / 2, most / 2, api.OK}, {0, 1, api.OK}, {1, 0, api.OK},
		{-1, 0, api.ErrTime}, {0, -1, api.ErrTime}, {-1, -1, api.ErrTime}, {-1, 1, api.ErrTime}, {-1, 2, api.ErrTime}, {1, -1, api.ErrTime}, {2, -1, api.ErrTime}, {5, -5, api.ErrTime}, {-5, 5, api.ErrTime}, {-5, 10, api.ErrTime}, {10, -5, api.ErrTime},
		{0, most + 1, api.ErrTime}, {most + 1, 0, api.ErrTime}, {5, most - 4, api.ErrTime}, {most, 1, api.ErrTime}, {1, most, api.ErrTime}, {most, most, api.ErrTime}, {most + 1, most + 1, api.ErrTime},
		{most + 1, -1, api.ErrTime}, {most + 5, -10, api.ErrTime}, {-1, most, api.ErrTime}, {-1, most + 1, api.ErrTime},
		{math.MaxInt, 0, api.ErrTime}, {0, math.MaxInt, api.ErrTime}, {math.MaxInt, 1, api.ErrTime}, {1, math.MaxInt, api.ErrTime}, {math.MaxInt, math.MaxInt, api.ErrTime}, {most, math.MaxInt, api.ErrTime},
		{math.MinInt, 0, api.ErrTime}, {0, math.MinInt, api.ErrTime}, {math.MinInt, math.MinInt, api.ErrTime}, {math.MinInt, math.MaxInt, api.ErrTime}, {math.MaxInt, math.MinInt, api.ErrTime}, {math.MinInt, -1, api.ErrTime}, {-1, math.MinInt, api.ErrTime},
		{1 << 62, 1 << 62, api.ErrTime}, {1 << 62, 3 << 61, api.ErrTime}, {-1 << 63, -1 << 63, api.ErrTime},
	} {
		var want api.Entry
		if try.want == api.OK {
			want = api.Entry{Key: "nl1:r1:ge", Time: try.at, Origin: 1, Value: fire, Until: try.at + try.keep}
		}
		holdEntry(t, at(try.at), 1, try.keep, want, try.want)
	}
	for _, time := range edges {
		for _, keep := range edges {
			want, err := wantEntry(at(time), 1, keep)
			holdEntry(t, at(time), 1, keep, want, err)
		}
	}
}

// P12.2, rule 2: which error is told where several are wrong, and the zero entry with it.
func TestEntryOfSeveralErrors(t *testing.T) {
	empty := []api.Send{{}, to("", "g"), to("r", ""), to("", xs(2000)), to(xs(2000), "")}
	long := []api.Send{to("r", xs(1014)), to(xs(2000), "g"), says(xs(8193)), {Receiver: xs(2000), Key: xs(2000), Revision: xs(9000)}}
	for _, time := range edges {
		for _, keep := range edges {
			for _, s := range empty {
				s.At = time
				holdEntry(t, s, 1, keep, api.Entry{}, api.ErrArg)
				s.Revision = xs(8193)
				holdEntry(t, s, 1, keep, api.Entry{}, api.ErrArg)
			}
			for _, s := range long {
				s.At = time
				holdEntry(t, s, 1, keep, api.Entry{}, api.ErrLong)
			}
		}
	}
}

// P12.2: each origin is told.
func TestEntryOrigins(t *testing.T) {
	for origin := range 1 << 16 {
		if e := tell(t, right(), uint16(origin), 100); e != (api.Entry{Key: "nl1:r1:ge", Time: 5, Origin: uint16(origin), Value: fire, Until: 105}) {
			t.Errorf("Entry with the origin %d: %s", origin, showEntry(e))
		}
	}
}

// P12.2: sendings that differ are told as entries that differ.
func TestEntryIsOneToOne(t *testing.T) {
	of := map[api.Entry]api.Send{}
	for _, s := range some() {
		e := tell(t, s, 4, 0)
		if other, there := of[e]; there && other != s {
			t.Errorf("%s and %s are told as %s", show(other), show(s), showEntry(e))
		}
		of[e] = s
	}
}

// FuzzEntry holds what Entry tells of any sending against the chapter's words.
func FuzzEntry(f *testing.F) {
	f.Add("r", "g", fire, 5, uint16(1), 100)
	f.Add("", "g", calm, -1, uint16(0), math.MaxInt)
	f.Fuzz(func(t *testing.T, receiver, key, revision string, time int, origin uint16, keep int) {
		s := api.Send{Receiver: receiver, Key: key, Revision: revision, At: time}
		want, wantErr := wantEntry(s, origin, keep)
		holdEntry(t, s, origin, keep, want, wantErr)
		if wantErr != api.OK {
			return
		}
		if got, ok := nflog.Of(want); !ok || got != s {
			t.Errorf("Of(%s) = %s, %v, not %s", showEntry(want), show(got), ok, show(s))
		}
	})
}
