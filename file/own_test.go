package file_test

import (
	"bytes"
	"testing"

	"watchfire/api"
	"watchfire/file"
)

// P17.5: New makes an empty disk that is up; capacity below 0 counts as 0.
func TestNew(t *testing.T) {
	for _, capacity := range append(append(below, 0, 1, 10), above...) {
		d := file.New(capacity)
		if d == nil || d == file.New(capacity) {
			t.Fatal("no disk of its own")
		}
		hold(t, d, "", "", "")
		holdOps(t, d, 0)
		holdCall(t, d, syncs(), api.OK)
		holdCall(t, d, cuts(0), api.OK)
		holdCall(t, d, appends(""), api.OK)
		holdCall(t, d, swaps(""), api.OK)
		holdOps(t, d, 4)
		want := api.OK
		if capacity < 1 {
			want = api.ErrFull
		}
		holdCall(t, d, appends("a"), want)
		holdCall(t, d, cuts(0), api.OK)
		holdCall(t, d, swaps("s"), want)
		if capacity < 2 {
			want = api.ErrFull
		}
		holdCall(t, d, swaps("st"), want)
	}
}

// P17.5, Rule 4: two disks have nothing in common.
func TestDisksAreApart(t *testing.T) {
	one, two := file.New(10), file.New(10)
	holdCall(t, one, appends("ab"), api.OK)
	holdCall(t, one, syncs(), api.OK)
	holdCall(t, one, swaps("s"), api.OK)
	holdCall(t, one, fails(0, false), api.OK)
	hold(t, two, "", "", "")
	holdOps(t, two, 0)
	holdCall(t, two, syncs(), api.OK)
	holdCall(t, one, syncs(), api.ErrDown)
	hold(t, two, "", "", "")
	two.Crash(0)
	holdDown(t, one, "s", "ab", "")
	holdOps(t, one, 4)
	holdOps(t, two, 1)
}

// P17.1, P17.5: each call of nil answers ErrNil, or nothing, 0 and false.
func TestNil(t *testing.T) {
	var d *file.Disk
	for range 2 {
		for _, c := range []call{appends("ab"), appends(""), cuts(0), cuts(-1), syncs(), swaps("ab"), swaps(""), fails(0, true), fails(-1, true)} {
			holdCall(t, d, c, api.ErrNil)
		}
		hold(t, d, "", "", "")
		holdOps(t, d, 0)
		if f := d.Fork(); f != nil {
			t.Errorf("Fork() = %v", f)
		}
		for _, keep := range keeps() {
			d.Crash(keep)
		}
	}
}

// P17.5: Read, Safe, Ops and Down of a disk that is up, that is down, and that is up again.
func TestLooks(t *testing.T) {
	d := made(t, 10, "sss", "ab", "cd")
	for range 3 {
		hold(t, d, "sss", "ab", "cd")
		holdOps(t, d, 4)
	}
	d.Fail(0, true)
	for range 3 {
		hold(t, d, "sss", "ab", "cd")
		holdOps(t, d, 4)
	}
	holdCall(t, d, cuts(1), api.ErrDown)
	for range 3 {
		holdDown(t, d, "sss", "a", "")
		holdOps(t, d, 5)
	}
	d.Crash(0)
	for range 3 {
		hold(t, d, "sss", "a", "")
		holdOps(t, d, 5)
	}
}

// P17.5: Safe tells the log's safe bytes of a disk that is down, too; Read tells none of them.
func TestSafeOfDown(t *testing.T) {
	d := downed(t, 10, "sss", "ab", "cd")
	if snap, log := d.Read(); len(snap) != 0 || len(log) != 0 || d.Safe() != 2 {
		t.Errorf("%q, %q, %d", snap, log, d.Safe())
	}
	d = made(t, 10, "sss", "ab", "cd")
	d.Fail(0, true)
	holdCall(t, d, syncs(), api.ErrDown)
	if d.Safe() != 4 {
		t.Errorf("Safe() = %d, not 4", d.Safe())
	}
}

// spoil changes bytes, and what stands in the room behind them.
func spoil(b []byte) {
	room := b[:cap(b)]
	for i := range room {
		room[i] = '!'
	}
}

// P17.2, Rule 3: what Append and Swap are handed stays as it was, with the room behind it, and is not kept.
func TestArgumentsStay(t *testing.T) {
	for _, n := range []int{0, 1, 8, 9, 64, 1000} {
		for _, c := range []struct {
			says string
			do   func(d *file.Disk, b []byte) api.Errno
			snap bool
		}{
			{"Append", (*file.Disk).Append, false}, {"Swap", (*file.Disk).Swap, true},
		} {
			d := file.New(5000)
			b := append(make([]byte, 0, 2000), letters(n)...)
			room := b[:cap(b)]
			was := bytes.Clone(room)
			if err := c.do(d, b); err != api.OK {
				t.Fatal(c.says, int(err))
			}
			holdCall(t, d, appends("abc"), api.OK)
			holdCall(t, d, syncs(), api.OK)
			if !bytes.Equal(room, was) {
				t.Errorf("%s of %d bytes changed what it was handed", c.says, n)
			}
			spoil(b)
			if c.snap {
				hold(t, d, letters(n), "abc", "")
			} else {
				hold(t, d, "", letters(n)+"abc", "")
			}
		}
	}
}

// P17.5, Rule 3: what Read tells is the asker's own, its spare room, too.
func TestAnswersAreNew(t *testing.T) {
	for _, n := range []int{0, 1, 8, 9, 33, 1000} {
		snap, safe, rest := letters(n/2), letters(n), letters(n/3)
		d := made(t, 5000, snap, safe, rest)
		holdCall(t, d, appends("more"), api.OK)
		holdCall(t, d, cuts(len(safe+rest)), api.OK)
		f := d.Fork()
		firstSnap, firstLog := d.Read()
		secondSnap, secondLog := d.Read()
		spoil(firstSnap)
		if string(firstLog) != safe+rest {
			t.Errorf("the snapshot and the log share their room: %q", firstLog)
		}
		spoil(firstLog)
		if string(secondSnap) != snap || string(secondLog) != safe+rest {
			t.Errorf("another answer changed: %q, %q", secondSnap, secondLog)
		}
		hold(t, d, snap, safe, rest)
		hold(t, f, snap, safe, rest)
		holdCall(t, d, appends("more"), api.OK)
		hold(t, d, snap, safe, rest+"more")
	}
}

// P17.5, Rule 3: what was told ahead stays as it was, whatever becomes of the disk.
func TestAnswersStay(t *testing.T) {
	d := made(t, 100, "sss", "ab", "cd")
	snap, log := d.Read()
	for i, c := range []call{appends("ef"), cuts(3), appends("xyz"), swaps("t"), swaps("uuu"), cuts(0), appends("1234567"), syncs(), fails(0, true), appends("z")} {
		c.do(d)
		if string(snap) != "sss" || string(log) != "abcd" {
			t.Fatalf("behind the call %d: %q, %q", i, snap, log)
		}
	}
	d.Crash(1)
	d.Append([]byte("another"))
	if string(snap) != "sss" || string(log) != "abcd" {
		t.Fatalf("behind a crash: %q, %q", snap, log)
	}
}

// P17.2, Rule 3: what a disk tells may be handed to it again.
func TestOwnAnswersAgain(t *testing.T) {
	d := made(t, 100, "sss", "ab", "cd")
	snap, log := d.Read()
	if a, b := d.Append(snap), d.Swap(log); a != api.OK || b != api.OK {
		t.Error(int(a), int(b))
	}
	hold(t, d, "abcd", "ab", "cdsss")
	hold(t, d, "abcd", "ab", "cdsss")
}

// P17.5: a fork is as the disk, and goes its own way, to both sides.
func TestFork(t *testing.T) {
	changes := []struct {
		do               call
		snap, safe, rest string
	}{
		{syncs(), "sss", "abcd", ""}, {appends("efg"), "sss", "ab", "cdefg"}, {cuts(1), "sss", "a", ""}, {cuts(3), "sss", "ab", "c"},
		{swaps("t"), "t", "ab", "cd"}, {swaps("ttt"), "ttt", "ab", "cd"},
		{call{"Crash", func(d *file.Disk) api.Errno { d.Crash(1); return api.OK }}, "sss", "abc", ""},
		{call{"Cut, Append", func(d *file.Disk) api.Errno { d.Cut(0); return d.Append([]byte("xyz")) }}, "sss", "", "xyz"},
		{call{"Append, Sync", func(d *file.Disk) api.Errno { d.Append([]byte("x")); return d.Sync() }}, "sss", "abcdx", ""},
	}
	for _, c := range changes {
		for _, swapped := range []bool{false, true} {
			changed := made(t, 10, "sss", "ab", "cd")
			kept := changed.Fork()
			if kept == changed {
				t.Fatal("no disk of its own")
			}
			if swapped {
				changed, kept = kept, changed
			}
			holdCall(t, changed, c.do, api.OK)
			hold(t, changed, c.snap, c.safe, c.rest)
			hold(t, kept, "sss", "ab", "cd")
			holdOps(t, kept, 4)
			// The other one has all of its room still.
			holdCall(t, kept, appends("KKKK"), api.ErrFull)
			holdCall(t, kept, appends("KKK"), api.OK)
			hold(t, changed, c.snap, c.safe, c.rest)
			hold(t, kept, "sss", "ab", "cdKKK")
		}
	}
}

// P17.3, P17.5: a fork has its own Fail, as it was told the disk.
func TestForkOfFail(t *testing.T) {
	for _, swapped := range []bool{false, true} {
		for _, done := range []bool{false, true} {
			one := made(t, 10, "sss", "ab", "cd")
			one.Fail(2, done)
			holdCall(t, one, swaps("t"), api.OK)
			two := one.Fork()
			if swapped {
				one, two = two, one
			}
			holdCall(t, one, cuts(3), api.OK)
			holdCall(t, one, syncs(), api.ErrDown)
			hold(t, two, "t", "ab", "cd")
			holdOps(t, one, 7)
			holdOps(t, two, 5)
			holdCall(t, two, fails(1, !done), api.OK)
			holdCall(t, two, cuts(2), api.OK)
			holdCall(t, two, appends("x"), api.ErrDown)
			if done {
				holdDown(t, one, "t", "abc", "")
				holdDown(t, two, "t", "ab", "")
			} else {
				holdDown(t, one, "t", "ab", "c")
				holdDown(t, two, "t", "ab", "x")
			}
			// A crash of one is none of the other, and forgets no Fail of the other.
			one.Crash(0)
			holdCall(t, one, fails(0, false), api.OK)
			four := one.Fork()
			one.Crash(0)
			holdCall(t, one, syncs(), api.OK)
			holdCall(t, four, syncs(), api.ErrDown)
			if !two.Down() {
				t.Error("another disk's crash started it")
			}
		}
	}
}

// P17.5: a fork of a disk that is down is down, too, and has its own crash.
func TestForkOfDown(t *testing.T) {
	for _, swapped := range []bool{false, true} {
		one := downed(t, 10, "sss", "ab", "cd")
		two := one.Fork()
		if swapped {
			one, two = two, one
		}
		holdDown(t, one, "sss", "ab", "cd")
		holdDown(t, two, "sss", "ab", "cd")
		one.Crash(1)
		holdCall(t, one, appends("x"), api.OK)
		hold(t, one, "sss", "abc", "x")
		holdDown(t, two, "sss", "ab", "cd")
		two.Crash(2)
		hold(t, two, "sss", "abcd", "")
		hold(t, one, "sss", "abc", "x")
		holdOps(t, two, 5)
		holdOps(t, one, 6)
	}
}
