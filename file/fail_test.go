package file_test

import (
	"math"
	"testing"

	"watchfire/api"
	"watchfire/file"
)

// failing is an op on a disk of 10 bytes with the snapshot sss, the safe bytes ab, and cd behind them, and what is there if it is done.
type failing struct {
	op               call
	snap, safe, rest string
}

// each are such ops: each of the four, also ones that change nothing.
func each() []failing {
	return []failing{
		{appends("ef"), "sss", "ab", "cdef"}, {appends("efg"), "sss", "ab", "cdefg"}, {appends(""), "sss", "ab", "cd"},
		{cuts(4), "sss", "ab", "cd"}, {cuts(3), "sss", "ab", "c"}, {cuts(2), "sss", "ab", ""}, {cuts(1), "sss", "a", ""}, {cuts(0), "sss", "", ""},
		{syncs(), "sss", "abcd", ""},
		{swaps("t"), "t", "ab", "cd"}, {swaps("tttttt"), "tttttt", "ab", "cd"}, {swaps(""), "", "ab", "cd"},
	}
}

// P17.3: the next op fails, each of the four: the answer is ErrDown, and it is done, if done.
func TestFail(t *testing.T) {
	for _, c := range each() {
		d := made(t, 10, "sss", "ab", "cd")
		holdCall(t, d, fails(0, false), api.OK)
		hold(t, d, "sss", "ab", "cd")
		holdCall(t, d, c.op, api.ErrDown)
		holdDown(t, d, "sss", "ab", "cd")
		holdOps(t, d, 5)

		d = made(t, 10, "sss", "ab", "cd")
		holdCall(t, d, fails(0, true), api.OK)
		hold(t, d, "sss", "ab", "cd")
		holdCall(t, d, c.op, api.ErrDown)
		holdDown(t, d, c.snap, c.safe, c.rest)
		holdOps(t, d, 5)
	}
}

// P17.3: a Fail says it of one op alone: behind a crash each is done.
func TestFailOnce(t *testing.T) {
	for _, done := range []bool{false, true} {
		for _, c := range each() {
			d := made(t, 10, "sss", "ab", "cd")
			d.Fail(0, done)
			holdCall(t, d, c.op, api.ErrDown)
			d.Crash(math.MaxInt)
			for range 5 {
				holdCall(t, d, syncs(), api.OK)
			}
			holdCall(t, d, cuts(0), api.OK)
			holdCall(t, d, swaps("t"), api.OK)
			holdCall(t, d, appends("x"), api.OK)
			hold(t, d, "t", "", "x")
		}
	}
}

// P17.3: after says how many ops are done ahead of the one that fails.
func TestFailAfter(t *testing.T) {
	for after := range 30 {
		for _, done := range []bool{false, true} {
			d := file.New(1000)
			holdCall(t, d, fails(after, done), api.OK)
			for range after {
				holdCall(t, d, appends("x"), api.OK)
			}
			hold(t, d, "", "", letters(after))
			holdCall(t, d, appends("y"), api.ErrDown)
			log := letters(after)
			if done {
				log += "y"
			}
			holdDown(t, d, "", "", log)
			holdOps(t, d, after+1)
		}
	}
	// So many ops do not come.
	for _, after := range above {
		d := file.New(10)
		holdCall(t, d, fails(after, true), api.OK)
		for range 1000 {
			holdCall(t, d, syncs(), api.OK)
		}
		holdOps(t, d, 1000)
	}
}

// P17.3: each of the four is counted ahead of the one that fails, and is done.
func TestFailCountsEach(t *testing.T) {
	for _, c := range each() {
		for _, done := range []bool{false, true} {
			d := made(t, 10, "sss", "ab", "cd")
			holdCall(t, d, fails(1, done), api.OK)
			holdCall(t, d, c.op, api.OK)
			hold(t, d, c.snap, c.safe, c.rest)
			holdOps(t, d, 5)
			holdCall(t, d, cuts(0), api.ErrDown)
			if done {
				holdDown(t, d, c.snap, "", "")
			} else {
				holdDown(t, d, c.snap, c.safe, c.rest)
			}
			holdOps(t, d, 6)
		}
	}
}

// P17.3: calls that find another error are not counted, and do not fail otherwise; looks, Fork and Fail are none of the four.
func TestFailPassesOver(t *testing.T) {
	for after := range 4 {
		d := made(t, 10, "sss", "ab", "cd")
		holdCall(t, d, fails(after, true), api.OK)
		for i := range after + 1 {
			for want, l := range refused() {
				for _, c := range l {
					holdCall(t, d, c, want)
					d.Fork()
				}
			}
			hold(t, d, "sss", "ab", "cd")
			holdOps(t, d, 4+i)
			if i < after {
				holdCall(t, d, swaps("sss"), api.OK)
			}
		}
		holdCall(t, d, appends("e"), api.ErrDown)
		holdDown(t, d, "sss", "ab", "cde")
	}
}

// P17.3: after below 0 is ErrArg; what was told ahead stays told, and what was not is not.
func TestFailRefuses(t *testing.T) {
	for _, after := range below {
		for _, done := range []bool{false, true} {
			d := file.New(10)
			holdCall(t, d, fails(after, done), api.ErrArg)
			for range 4 {
				holdCall(t, d, appends("x"), api.OK)
			}
			holdCall(t, d, fails(1, !done), api.OK)
			holdCall(t, d, fails(after, done), api.ErrArg)
			holdCall(t, d, appends("x"), api.OK)
			holdCall(t, d, fails(after, done), api.ErrArg)
			holdCall(t, d, appends("y"), api.ErrDown)
			if done {
				holdDown(t, d, "", "", "xxxxx")
			} else {
				holdDown(t, d, "", "", "xxxxxy")
			}
		}
	}
}

// P17.3: each Fail takes the place of an earlier one, be it later, sooner, or for the same op.
func TestFailAgain(t *testing.T) {
	for first := range 5 {
		for between := range first + 1 {
			for second := range 5 {
				for _, done := range []bool{false, true} {
					d := file.New(100)
					holdCall(t, d, fails(first, !done), api.OK)
					for range between {
						holdCall(t, d, appends("x"), api.OK)
					}
					holdCall(t, d, fails(second, done), api.OK)
					holdOps(t, d, between)
					for range second {
						holdCall(t, d, appends("x"), api.OK)
					}
					holdCall(t, d, appends("y"), api.ErrDown)
					log := letters(between + second)
					if done {
						log += "y"
					}
					holdDown(t, d, "", "", log)
					holdOps(t, d, between+second+1)
					// The earlier one does not come back.
					d.Crash(100)
					for range 10 {
						holdCall(t, d, appends("x"), api.OK)
					}
				}
			}
		}
	}
}

// P17.3: Ops counts each of the four that finds no other error, done or not, of a disk that is up or that was down.
func TestOps(t *testing.T) {
	d := file.New(4)
	for i, c := range []struct {
		call call
		err  api.Errno
		ops  int
	}{
		{cuts(0), api.OK, 1}, {cuts(1), api.ErrRange, 1}, {appends("ab"), api.OK, 2}, {appends("abc"), api.ErrFull, 2},
		{syncs(), api.OK, 3}, {swaps("abc"), api.ErrFull, 3}, {swaps("s"), api.OK, 4}, {fails(-1, true), api.ErrArg, 4},
		{fails(1, true), api.OK, 4}, {appends(""), api.OK, 5}, {appends("toolong"), api.ErrFull, 5}, {cuts(1), api.ErrDown, 6},
		{cuts(1), api.ErrDown, 6}, {appends(""), api.ErrDown, 6}, {syncs(), api.ErrDown, 6}, {swaps(""), api.ErrDown, 6}, {fails(0, false), api.ErrDown, 6},
	} {
		holdCall(t, d, c.call, c.err)
		if got := d.Ops(); got != c.ops {
			t.Errorf("the call %d, %s: %d ops, not %d", i, c.call.says, got, c.ops)
		}
	}
	d.Crash(0)
	holdOps(t, d, 6)
	holdCall(t, d, syncs(), api.OK)
	holdOps(t, d, 7)
	d.Crash(0)
	holdOps(t, d, 7)
}
