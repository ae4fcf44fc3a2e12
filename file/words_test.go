package file_test

import (
	"math"
	"math/rand"
	"strings"
	"testing"

	"watchfire/api"
	"watchfire/file"
)

// numbers are those of all kinds, but 0: below it and above it, near and far.
var (
	below = []int{-1, -2, -10, -1 << 31, -1 << 40, math.MinInt}
	above = []int{1 << 31, 1 << 32, 1 << 40, math.MaxInt}
)

// call is one of the calls that change a disk, as it is told behind a failure.
type call struct {
	says string
	do   func(d *file.Disk) api.Errno
}

// appends, cuts, swaps, syncs and fails make the calls.
func appends(b string) call {
	return call{"Append(" + b + ")", func(d *file.Disk) api.Errno { return d.Append([]byte(b)) }}
}

func cuts(n int) call {
	return call{"Cut", func(d *file.Disk) api.Errno { return d.Cut(n) }}
}

func swaps(b string) call {
	return call{"Swap(" + b + ")", func(d *file.Disk) api.Errno { return d.Swap([]byte(b)) }}
}

func syncs() call { return call{"Sync", (*file.Disk).Sync} }

func fails(after int, done bool) call {
	return call{"Fail", func(d *file.Disk) api.Errno { return d.Fail(after, done) }}
}

// holdCall holds what a call answers.
func holdCall(t *testing.T, d *file.Disk, c call, want api.Errno) {
	t.Helper()
	if err := c.do(d); err != want {
		t.Errorf("%s = %d, not %d", c.says, int(err), int(want))
	}
}

// holdRead holds what Read tells.
func holdRead(t *testing.T, d *file.Disk, snap, log string) {
	t.Helper()
	if a, b := d.Read(); string(a) != snap || string(b) != log {
		t.Errorf("Read() = %q, %q, not %q, %q", a, b, snap, log)
	}
}

// hold holds that a disk is up, and what it has: the log is its safe bytes, and the rest.
func hold(t *testing.T, d *file.Disk, snap, safe, rest string) {
	t.Helper()
	holdRead(t, d, snap, safe+rest)
	if d.Safe() != len(safe) || d.Down() {
		t.Errorf("safe: %d, not %d; down: %v", d.Safe(), len(safe), d.Down())
	}
}

// holdDown holds that a disk is down, and what is there behind a crash that leaves all.
func holdDown(t *testing.T, d *file.Disk, snap, safe, rest string) {
	t.Helper()
	holdRead(t, d, "", "")
	if d.Safe() != len(safe) || !d.Down() {
		t.Errorf("safe: %d, not %d; down: %v", d.Safe(), len(safe), d.Down())
	}
	f := d.Fork()
	f.Crash(len(rest))
	hold(t, f, snap, safe+rest, "")
}

// holdOps holds how many ops there were.
func holdOps(t *testing.T, d *file.Disk, want int) {
	t.Helper()
	if got := d.Ops(); got != want {
		t.Errorf("Ops() = %d, not %d", got, want)
	}
}

// made makes a disk with that snapshot, and a log of safe bytes and others: by 4 ops.
func made(t *testing.T, capacity int, snap, safe, rest string) *file.Disk {
	t.Helper()
	d := file.New(capacity)
	for _, c := range []call{swaps(snap), appends(safe), syncs(), appends(rest)} {
		holdCall(t, d, c, api.OK)
	}
	hold(t, d, snap, safe, rest)
	return d
}

// downed makes such a disk that is down: by one op more, which was not done.
func downed(t *testing.T, capacity int, snap, safe, rest string) *file.Disk {
	t.Helper()
	d := made(t, capacity, snap, safe, rest)
	holdCall(t, d, fails(0, false), api.OK)
	holdCall(t, d, syncs(), api.ErrDown)
	holdDown(t, d, snap, safe, rest)
	return d
}

// model is a disk by the chapter's words.
type model struct {
	capacity        int
	snap, safe, log string
	ops             int
	down            bool
	// Whether each op from now on fails: as long as a Fail is told, up to the one that does.
	coming []string
}

// do is one of the four, that finds this error: it answers an error, and whether it is done.
func (m *model) do(found api.Errno) (api.Errno, bool) {
	if m.down {
		return api.ErrDown, false
	}
	if found != api.OK {
		return found, false
	}
	m.ops++
	if len(m.coming) == 0 {
		return api.OK, true
	}
	what := m.coming[0]
	m.coming = m.coming[1:]
	if what == "" {
		return api.OK, true
	}
	m.down = true
	return api.ErrDown, what == "done"
}

// full is ErrFull, if so many bytes are too many.
func (m *model) full(n int) api.Errno {
	if n > m.capacity {
		return api.ErrFull
	}
	return api.OK
}

func (m *model) append(b string) api.Errno {
	err, done := m.do(m.full(len(m.snap + m.log + b)))
	if done {
		m.log += b
	}
	return err
}

func (m *model) cut(n int) api.Errno {
	found := api.OK
	if n < 0 || n > len(m.log) {
		found = api.ErrRange
	}
	err, done := m.do(found)
	if done {
		m.log = m.log[:n]
		if n < len(m.safe) {
			m.safe = m.log
		}
	}
	return err
}

func (m *model) sync() api.Errno {
	err, done := m.do(api.OK)
	if done {
		m.safe = m.log
	}
	return err
}

func (m *model) swap(b string) api.Errno {
	err, done := m.do(m.full(len(b + m.log)))
	if done {
		m.snap = b
	}
	return err
}

func (m *model) fail(after int, done bool) api.Errno {
	if m.down {
		return api.ErrDown
	}
	if after < 0 {
		return api.ErrArg
	}
	m.coming = make([]string, after+1)
	m.coming[after] = "not done"
	if done {
		m.coming[after] = "done"
	}
	return api.OK
}

func (m *model) crash(keep int) {
	rest := strings.TrimPrefix(m.log, m.safe)
	if keep < 0 {
		rest = ""
	} else if keep < len(rest) {
		rest = rest[:keep]
	}
	m.safe += rest
	m.log = m.safe
	m.down, m.coming = false, nil
}

// pair is a disk, and the model of it.
type pair struct {
	d *file.Disk
	m model
}

// text tells some bytes; of one number the same ones.
func text(n, length byte) string {
	return strings.Repeat(string(rune('a'+n%26)), int(length))
}

// step makes one step of a pair, as bytes say, and holds what it answers.
func step(t *testing.T, p *pair, kind, a, b byte) {
	t.Helper()
	got, want := api.OK, api.OK
	switch kind % 8 {
	case 0, 1:
		s := text(b, a%9)
		got, want = p.d.Append([]byte(s)), p.m.append(s)
	case 2:
		n := int(int8(a)) % 24
		got, want = p.d.Cut(n), p.m.cut(n)
	case 3:
		got, want = p.d.Sync(), p.m.sync()
	case 4:
		s := text(b, a%17)
		got, want = p.d.Swap([]byte(s)), p.m.swap(s)
	case 5:
		after := int(a%8) - 1
		got, want = p.d.Fail(after, b%2 == 0), p.m.fail(after, b%2 == 0)
	case 6, 7:
		// A disk that is up crashes seldom.
		if p.m.down || a%4 == 0 {
			keep := int(int8(b)) % 10
			p.d.Crash(keep)
			p.m.crash(keep)
		}
	}
	if got != want {
		t.Fatalf("the step %d, %d, %d: %d, not %d", kind%8, a, b, int(got), int(want))
	}
}

// holdPair holds that a disk is as its model.
func holdPair(t *testing.T, p *pair) {
	t.Helper()
	holdOps(t, p.d, p.m.ops)
	rest := strings.TrimPrefix(p.m.log, p.m.safe)
	if p.m.down {
		holdDown(t, p.d, p.m.snap, p.m.safe, rest)
	} else {
		hold(t, p.d, p.m.snap, p.m.safe, rest)
	}
}

// play makes steps of disks and forks, four bytes a step, and holds each disk behind each step.
func play(t *testing.T, steps []byte) {
	if len(steps) == 0 {
		return
	}
	capacity := int(int8(steps[0])) % 48
	l := []*pair{{d: file.New(capacity), m: model{capacity: max(capacity, 0)}}}
	for i := 1; i+4 <= len(steps) && i < 4000; i += 4 {
		p := l[int(steps[i])%len(l)]
		if steps[i+1] > 250 && len(l) < 4 {
			l = append(l, &pair{d: p.d.Fork(), m: p.m})
		} else {
			step(t, p, steps[i+1], steps[i+2], steps[i+3])
		}
		for _, p := range l {
			holdPair(t, p)
		}
		if t.Failed() {
			t.Fatalf("behind step %d: %v", i/4, steps[1:i+4])
		}
	}
}

// P17.1 to P17.6: long rows of steps of disks and forks are as the chapter's words say.
func TestPlay(t *testing.T) {
	source := rand.New(rand.NewSource(17))
	for range 400 {
		steps := make([]byte, 1+4*source.Intn(200))
		source.Read(steps)
		play(t, steps)
	}
}

// P17.1 to P17.6: so is any row of steps.
func FuzzDisk(f *testing.F) {
	f.Add([]byte{10, 0, 0, 2, 0, 0, 3, 0, 0, 0, 0, 2, 2, 0, 6, 0, 1})
	f.Add([]byte{40, 0, 5, 2, 0, 0, 0, 8, 1, 0, 255, 0, 0, 1, 4, 16, 5, 0, 3, 0, 0, 0, 6, 0, 3})
	f.Fuzz(play)
}
