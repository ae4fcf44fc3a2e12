package file_test

import (
	"math"
	"math/rand"
	"strings"
	"testing"

	"watchfire/api"
	"watchfire/file"
)

// keeps are edges of how many bytes stay.
func keeps() []int {
	l := []int{0, 1, 2, 3, 4, 5, 6, 7, 20}
	return append(append(l, below...), above...)
}

// left tells the first keep bytes of those that are not safe.
func left(rest string, keep int) string { return rest[:min(max(keep, 0), len(rest))] }

// P17.4: the first keep of the bytes that are not safe stay, and are safe then; the snapshot stays, and the disk is up.
func TestCrash(t *testing.T) {
	for _, safe := range []string{"", "a", "abc"} {
		for _, rest := range []string{"", "d", "defghi"} {
			for _, keep := range keeps() {
				for _, d := range []*file.Disk{made(t, 20, "s", safe, rest), downed(t, 20, "s", safe, rest)} {
					ops := d.Ops()
					d.Crash(keep)
					hold(t, d, "s", safe+left(rest, keep), "")
					holdOps(t, d, ops)
					// What was lost is lost, and what is there stays.
					d.Crash(math.MaxInt)
					hold(t, d, "s", safe+left(rest, keep), "")
					d.Crash(math.MinInt)
					hold(t, d, "s", safe+left(rest, keep), "")
					holdCall(t, d, appends("xyz"), api.OK)
					hold(t, d, "s", safe+left(rest, keep), "xyz")
					d.Crash(1)
					hold(t, d, "s", safe+left(rest, keep)+"x", "")
				}
			}
		}
	}
}

// P17.4: a crash makes room: what was lost does not count any more.
func TestCrashMakesRoom(t *testing.T) {
	d := made(t, 10, "s", "ab", "cdefghi")
	holdCall(t, d, appends("x"), api.ErrFull)
	d.Crash(3)
	holdCall(t, d, appends("12345"), api.ErrFull)
	holdCall(t, d, appends("1234"), api.OK)
	hold(t, d, "s", "abcde", "1234")
	holdCall(t, d, cuts(10), api.ErrRange)
}

// P17.4: behind a crash no Fail is told, be the disk up or down.
func TestCrashForgetsFail(t *testing.T) {
	for _, after := range []int{0, 1, 2, 5} {
		for _, done := range []bool{false, true} {
			d := made(t, 10, "sss", "ab", "cd")
			holdCall(t, d, fails(after, done), api.OK)
			d.Crash(1)
			for range 10 {
				holdCall(t, d, syncs(), api.OK)
			}
			hold(t, d, "sss", "abc", "")
			// The next one counts from its own time on.
			holdCall(t, d, fails(1, false), api.OK)
			holdCall(t, d, syncs(), api.OK)
			holdCall(t, d, cuts(0), api.ErrDown)
			d.Crash(0)
			for range 10 {
				holdCall(t, d, syncs(), api.OK)
			}
			hold(t, d, "sss", "abc", "")
		}
	}
}

// P17.3, P17.4: what is there behind a crash, when an op failed that was done, and one that was not done.
func TestCrashBehindFail(t *testing.T) {
	for _, c := range each() {
		for _, keep := range keeps() {
			d := made(t, 10, "sss", "ab", "cd")
			d.Fail(0, false)
			holdCall(t, d, c.op, api.ErrDown)
			d.Crash(keep)
			hold(t, d, "sss", "ab"+left("cd", keep), "")

			d = made(t, 10, "sss", "ab", "cd")
			d.Fail(0, true)
			holdCall(t, d, c.op, api.ErrDown)
			d.Crash(keep)
			hold(t, d, c.snap, c.safe+left(c.rest, keep), "")
		}
	}
}

// P17.6: what was synced, and not cut, is there behind any crash, at each op and with any keep; behind it comes a beginning of what was appended.
func TestSyncedStays(t *testing.T) {
	const script = "aasabsaasbbbsasb"
	for at := range len(script) {
		for _, done := range []bool{false, true} {
			for keep := -1; keep < 30; keep++ {
				d := file.New(1000)
				holdCall(t, d, fails(at, done), api.OK)
				synced, told := "", ""
				for i, op := range script {
					if op == 's' {
						if d.Sync() == api.OK {
							synced = told
						}
						continue
					}
					if b := strings.Repeat(string(op), i); d.Append([]byte(b)) == api.OK || i == at {
						told += b
					}
				}
				if !d.Down() {
					t.Fatalf("the op %d did not fail", at)
				}
				d.Crash(keep)
				_, log := d.Read()
				if !strings.HasPrefix(string(log), synced) || !strings.HasPrefix(told, string(log)) || d.Safe() != len(log) {
					t.Errorf("failed at %d, %v, %d kept: %q of %q, synced %q", at, done, keep, log, told, synced)
				}
			}
		}
	}
}

// P17.6: a snapshot is the old one or the new one, behind any crash, as the op that failed was not done, or was.
func TestSnapshotIsWhole(t *testing.T) {
	source := rand.New(rand.NewSource(176))
	for range 300 {
		before, behind := letters(source.Intn(20)), strings.Repeat("y", source.Intn(20))
		d := made(t, 30, before, letters(source.Intn(5)), letters(source.Intn(5)))
		done := source.Intn(2) == 0
		holdCall(t, d, fails(0, done), api.OK)
		holdCall(t, d, swaps(behind), api.ErrDown)
		d.Crash(source.Intn(12) - 1)
		want := before
		if done {
			want = behind
		}
		if snap, _ := d.Read(); string(snap) != want {
			t.Errorf("%q, %q, %v: %q", before, behind, done, snap)
		}
	}
	// A crash of a disk that is up leaves the newest one.
	d := made(t, 30, "old", "ab", "cd")
	holdCall(t, d, swaps("new"), api.OK)
	d.Crash(-1)
	hold(t, d, "new", "ab", "")
}
