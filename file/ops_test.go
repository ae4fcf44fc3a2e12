package file_test

import (
	"math"
	"strings"
	"testing"

	"watchfire/api"
	"watchfire/file"
)

// letters tells so many bytes.
func letters(n int) string { return strings.Repeat("x", n) }

// P17.2, P17.4: the chapter's example.
func TestExample(t *testing.T) {
	d := file.New(100)
	holdCall(t, d, appends("ab"), api.OK)
	holdCall(t, d, syncs(), api.OK)
	holdCall(t, d, appends("cd"), api.OK)
	d.Crash(1)
	hold(t, d, "", "abc", "")
}

// refused are calls that find an error of their own on a disk of 10 bytes with the snapshot sss, the safe bytes ab, and cd behind them.
func refused() map[api.Errno][]call {
	l := map[api.Errno][]call{
		api.ErrFull:  {appends("efgh"), appends(letters(1000)), swaps("sssssss"), swaps(letters(1000))},
		api.ErrRange: {cuts(5), cuts(6)},
	}
	for _, n := range below {
		l[api.ErrRange] = append(l[api.ErrRange], cuts(n))
		l[api.ErrArg] = append(l[api.ErrArg], fails(n, false), fails(n, true))
	}
	for _, n := range above {
		l[api.ErrRange] = append(l[api.ErrRange], cuts(n))
	}
	return l
}

// taken are calls that find no error there, unless the disk is down.
func taken() []call {
	return []call{
		appends(""), appends("e"), appends("efg"), cuts(0), cuts(1), cuts(2), cuts(3), cuts(4), syncs(),
		swaps(""), swaps("s"), swaps("ssssss"), fails(0, false), fails(0, true), fails(3, true), fails(math.MaxInt, false),
	}
}

// P17.1: ErrNil comes first, whatever else is wrong; and nothing is done.
func TestNilRefuses(t *testing.T) {
	var d *file.Disk
	for _, l := range refused() {
		for _, c := range l {
			holdCall(t, d, c, api.ErrNil)
		}
	}
	for _, c := range taken() {
		holdCall(t, d, c, api.ErrNil)
	}
}

// P17.1: ErrDown comes next, whatever else is wrong; nothing changes, and no op is counted.
func TestDownRefuses(t *testing.T) {
	d := downed(t, 10, "sss", "ab", "cd")
	holdRefused := func(c call) {
		t.Helper()
		holdCall(t, d, c, api.ErrDown)
		holdDown(t, d, "sss", "ab", "cd")
		holdOps(t, d, 5)
	}
	for _, l := range refused() {
		for _, c := range l {
			holdRefused(c)
		}
	}
	for _, c := range taken() {
		holdRefused(c)
	}
	// A Fail that is refused is not told.
	d.Crash(0)
	for _, c := range []call{syncs(), cuts(1), swaps("t"), appends("x"), syncs()} {
		holdCall(t, d, c, api.OK)
	}
	hold(t, d, "t", "ax", "")
}

// P17.2, P17.3: a disk that is up answers the error that a call finds of its own; nothing changes, and no op is counted.
func TestUpRefuses(t *testing.T) {
	d := made(t, 10, "sss", "ab", "cd")
	for want, l := range refused() {
		for _, c := range l {
			holdCall(t, d, c, want)
			hold(t, d, "sss", "ab", "cd")
			holdOps(t, d, 4)
		}
	}
}

// P17.1, P17.2: what is taken answers OK.
func TestUpTakes(t *testing.T) {
	for _, c := range taken() {
		holdCall(t, made(t, 10, "sss", "ab", "cd"), c, api.OK)
	}
}

// P17.2: Append puts bytes behind the log, whichever; they are not safe.
func TestAppend(t *testing.T) {
	d := file.New(1000)
	hold(t, d, "", "", "")
	holdCall(t, d, appends("ab"), api.OK)
	hold(t, d, "", "", "ab")
	holdCall(t, d, appends("\x00\xff\n"), api.OK)
	hold(t, d, "", "", "ab\x00\xff\n")
	holdCall(t, d, syncs(), api.OK)
	holdCall(t, d, appends("ab"), api.OK)
	holdCall(t, d, appends("ab"), api.OK)
	hold(t, d, "", "ab\x00\xff\n", "abab")
	if err := d.Append(nil); err != api.OK {
		t.Error(int(err))
	}
	holdCall(t, d, appends(""), api.OK)
	hold(t, d, "", "ab\x00\xff\n", "abab")
	holdOps(t, d, 7)
	holdCall(t, d, swaps("s"), api.OK)
	holdCall(t, d, appends("z"), api.OK)
	hold(t, d, "s", "ab\x00\xff\n", "ababz")
}

// P17.2: Append and Swap fill the disk just to its capacity, snapshot and log together; one byte more is ErrFull.
func TestCapacity(t *testing.T) {
	for _, capacity := range []int{0, 1, 2, 7, 100} {
		for snap := 0; snap <= capacity; snap = 2*snap + 1 {
			for log := 0; snap+log <= capacity; log = 2*log + 1 {
				s, l, room := letters(snap), letters(log/2), capacity-snap-log
				holdCall(t, made(t, capacity, s, l, letters(log-log/2)), appends(letters(room+1)), api.ErrFull)
				d := made(t, capacity, s, l, letters(log-log/2))
				holdCall(t, d, swaps(letters(snap+room+1)), api.ErrFull)
				hold(t, d, s, l, letters(log-log/2))
				holdOps(t, d, 4)
				holdCall(t, d, appends(letters(room)), api.OK)
				hold(t, d, s, l, letters(log-log/2+room))
				holdCall(t, d, appends("y"), api.ErrFull)
				holdCall(t, d, appends(""), api.OK)
				// The snapshot's own bytes do not count against the one that takes its place.
				holdCall(t, d, swaps(letters(snap+1)), api.ErrFull)
				holdCall(t, d, swaps(strings.Repeat("t", snap)), api.OK)
				hold(t, d, strings.Repeat("t", snap), l, letters(log-log/2+room))
				holdCall(t, d, cuts(log), api.OK)
				holdCall(t, d, swaps(letters(snap+room)), api.OK)
				holdCall(t, d, swaps(letters(snap+room+1)), api.ErrFull)
				holdCall(t, d, appends("y"), api.ErrFull)
				hold(t, d, letters(snap+room), l, letters(log-log/2))
			}
		}
	}
}

// P17.2: Cut leaves the first bytes; the safe ones among them are safe.
func TestCut(t *testing.T) {
	for _, safe := range []string{"", "a", "abc"} {
		for _, rest := range []string{"", "d", "def"} {
			log := safe + rest
			for n := range len(log) + 1 {
				d := made(t, 20, "s", safe, rest)
				holdCall(t, d, cuts(n), api.OK)
				kept := min(n, len(safe))
				hold(t, d, "s", log[:kept], log[kept:n])
				holdOps(t, d, 5)
				// What comes behind a cut is not safe, be it where safe bytes were.
				holdCall(t, d, appends("xyz"), api.OK)
				hold(t, d, "s", log[:kept], log[kept:n]+"xyz")
			}
			d := made(t, 20, "s", safe, rest)
			for _, n := range append(append(below, len(log)+1, len(log)+2), above...) {
				holdCall(t, d, cuts(n), api.ErrRange)
				hold(t, d, "s", safe, rest)
			}
			holdOps(t, d, 4)
		}
	}
}

// P17.2: Sync makes all of the log safe, also none.
func TestSync(t *testing.T) {
	d := file.New(10)
	holdCall(t, d, syncs(), api.OK)
	hold(t, d, "", "", "")
	holdOps(t, d, 1)
	holdCall(t, d, appends("abc"), api.OK)
	holdCall(t, d, syncs(), api.OK)
	hold(t, d, "", "abc", "")
	holdCall(t, d, syncs(), api.OK)
	hold(t, d, "", "abc", "")
	holdCall(t, d, appends("de"), api.OK)
	hold(t, d, "", "abc", "de")
	holdCall(t, d, cuts(4), api.OK)
	holdCall(t, d, syncs(), api.OK)
	hold(t, d, "", "abcd", "")
	holdCall(t, d, cuts(0), api.OK)
	holdCall(t, d, syncs(), api.OK)
	hold(t, d, "", "", "")
	holdOps(t, d, 9)
}

// P17.2: Swap puts a snapshot in the other one's place at once, be it shorter, longer or empty; the log stays.
func TestSwap(t *testing.T) {
	d := made(t, 20, "", "ab", "cd")
	for i, snap := range []string{"s", "longer", "lo", "other", "", "", "\x00\xff", "x"} {
		holdCall(t, d, swaps(snap), api.OK)
		hold(t, d, snap, "ab", "cd")
		holdOps(t, d, 5+i)
		f := d.Fork()
		f.Crash(0)
		hold(t, f, snap, "ab", "")
	}
	if err := d.Swap(nil); err != api.OK {
		t.Error(int(err))
	}
	hold(t, d, "", "ab", "cd")
}
