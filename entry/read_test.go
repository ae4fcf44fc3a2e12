package entry_test

import (
	"fmt"
	"slices"
	"strings"
	"testing"

	"watchfire/api"
	"watchfire/ben"
	"watchfire/entry"
)

// holdRead holds what Read tells of s, and what the reader has left and tells of itself behind it, against what is wanted.
func holdRead(t *testing.T, s string, want api.Entry, left int, err api.Errno) {
	t.Helper()
	r := ben.New([]byte(s))
	if got := entry.Read(r); got != want {
		t.Errorf("Read(%s) = %s, not %s", short(s), show(got), show(want))
	}
	if r.Left() != left || r.Err() != err {
		t.Errorf("behind Read(%s): left %d, error %d; not %d, %d", short(s), r.Left(), int(r.Err()), left, int(err))
	}
}

// holdReadWords holds what Read tells of s against the chapter's words, and tells whether it is an entry that stands. What was read is just what Put lays.
func holdReadWords(t *testing.T, s string) bool {
	t.Helper()
	want, left, tells := wantRead(s)
	r := ben.New([]byte(s))
	got := entry.Read(r)
	if got != want || r.Left() != left || (r.Err() == api.OK) != tells {
		t.Fatalf("Read(%q) = %s, left %d, error %d; not %s, %d, %v", s, show(got), r.Left(), int(r.Err()), show(want), left, tells)
	}
	stands := got.Key != ""
	if stands && string(entry.Put(got)) != s[:len(s)-left] {
		t.Fatalf("%q is another way to lay %s", s, show(got))
	}
	if !stands && got != (api.Entry{}) {
		t.Fatalf("Read(%q) has no key, but is %s", s, show(got))
	}
	return stands
}

// P9.3: bytes and what they tell, written out.
func TestRead(t *testing.T) {
	holdRead(t, "l1:ki5ei1e1:vi9ee", right(), 0, api.OK)
	holdRead(t, "l1:ki0ei0e0:i0ee", api.Entry{Key: "k"}, 0, api.OK)
	holdRead(t, "l2:\x00\xffi10ei256e3:\xc3\xa4ei100ee", api.Entry{Key: "\x00\xff", Time: 10, Origin: 256, Value: "\u00e4e", Until: 100}, 0, api.OK)
	holdRead(t, "l9:nl1:r1:gei1099511627776ei65535e15:l8:l1:a1:1ei1eei1099511627776ee", api.Entry{Key: "nl1:r1:ge", Time: 1 << 40, Origin: 65535, Value: "l8:l1:a1:1ei1ee", Until: 1 << 40}, 0, api.OK)
}

// P9.3: what Put lays is read again, if it stands; with any bytes behind it, which are left.
func TestReadOfPut(t *testing.T) {
	all := append(grid(), keyOf(1), keyOf(1023), keyOf(1024), valueOf(0), valueOf(8191), valueOf(8192), lasts(0, 0), lasts(0, 1<<40), lasts(1<<40, 1<<40))
	for b := range 256 {
		s := string([]byte{byte(b)})
		all = append(all, changed(func(e *api.Entry) { e.Key, e.Value = s, s+s }))
	}
	stand := 0
	for _, e := range all {
		want := e
		if wantCheck(e) != api.OK {
			want = api.Entry{}
		} else {
			stand++
		}
		b := string(entry.Put(e))
		for _, behind := range []string{"", "x", "e", "i5e", b, strings.Repeat("l", 10_000)} {
			holdRead(t, b+behind, want, len(behind), api.OK)
		}
	}
	if stand < 500 {
		t.Errorf("%d entries stand: they say too little", stand)
	}
}

// P9.3: each origin of 16 bits is read again.
func TestReadOfOrigins(t *testing.T) {
	for origin := range 1 << 16 {
		want := changed(func(e *api.Entry) { e.Origin = uint16(origin) })
		holdRead(t, fmt.Sprintf("l1:ki5ei%de1:vi9ee", origin), want, 0, api.OK)
	}
}

// P9.3: a number that is no origin is not cut down to one: the zero entry, and no error of the reader.
func TestReadOfNoOrigins(t *testing.T) {
	for _, origin := range []string{"-1", "-2", "-65535", "-65536", "65536", "65537", "131071", "131072", "16777216", "4294967295", "4294967296", "4294967297", "-4294967295", "9223372036854775807", "-9223372036854775808"} {
		holdRead(t, "l1:ki5ei"+origin+"e1:vi9ee", api.Entry{}, 0, api.OK)
		holdRead(t, "l1:ki5ei"+origin+"e1:vi9eei7e", api.Entry{}, 3, api.OK)
	}
	for _, origin := range []string{"9223372036854775808", "-9223372036854775809", "18446744073709551617", "01", "+1", "-0", "", "x", "1 ", strings.Repeat("1", 30)} {
		holdRead(t, "l1:ki5ei"+origin+"e1:vi9ee", api.Entry{}, 0, api.ErrForm)
	}
}

// P9.3: an entry that does not stand: the zero entry, no error of the reader, and what is behind it is left.
func TestReadOfWhatDoesNotStand(t *testing.T) {
	for _, e := range []api.Entry{
		{}, keyOf(0), keyOf(1025), keyOf(1026), keyOf(20_000), valueOf(8193), valueOf(8194), valueOf(70_000),
		lasts(-1, 9), lasts(-1, -1), lasts(5, 4), lasts(5, 0), lasts(5, -1), lasts(1, 0), lasts(5, 1<<40+1), lasts(1<<40+1, 1<<40+1), lasts(1<<40+1, 1<<40),
		lasts(-9223372036854775808, 9), lasts(5, -9223372036854775808), lasts(5, 9223372036854775807), lasts(9223372036854775807, 9223372036854775807),
		{Value: "v", Time: 5, Until: 4}, {Key: strings.Repeat("k", 1025), Value: strings.Repeat("v", 8193), Time: -1, Until: -2},
	} {
		b := wantPut(e)
		for _, behind := range []string{"", "x", "e", "l1:ki5ei1e1:vi9ee"} {
			holdRead(t, b+behind, api.Entry{}, len(behind), api.OK)
		}
	}
}

// P9.3: entries one behind the other, right ones and ones that do not stand, are read one by one, and within a list until it ends.
func TestReadOneBehindTheOther(t *testing.T) {
	l := []api.Entry{right(), lasts(5, 4), keyOf(1024), {}, valueOf(8192), keyOf(1025), valueOf(8193), lasts(0, 1<<40), right()}
	var parts [][]byte
	for _, e := range l {
		parts = append(parts, entry.Put(e))
	}
	r := ben.New(slices.Concat(ben.List(parts...), ben.Int(7)))
	r.Open()
	for i, e := range l {
		if !r.More() {
			t.Fatalf("nothing is left ahead of %d", i)
		}
		if wantCheck(e) != api.OK {
			e = api.Entry{}
		}
		if got := entry.Read(r); got != e {
			t.Errorf("%d: Read = %s", i, show(got))
		}
	}
	if r.More() {
		t.Error("the list goes on")
	}
	r.Close()
	if n := r.Int(); n != 7 || r.Left() != 0 || r.Err() != api.OK {
		t.Errorf("behind it: %d, left %d, error %d", n, r.Left(), int(r.Err()))
	}
}

// P9.3: bytes that are cut off, at each place: ErrCut, and nothing is left.
func TestReadOfCut(t *testing.T) {
	for _, e := range []api.Entry{right(), lasts(0, 1<<40), keyOf(1024), lasts(5, 4), keyOf(1025), {Key: "\x00", Origin: 65535}, {}} {
		b := wantPut(e)
		for i := range b {
			holdRead(t, b[:i], api.Entry{}, 0, api.ErrCut)
		}
	}
	holdRead(t, wantPut(valueOf(8193))[:8000], api.Entry{}, 0, api.ErrCut)
	holdRead(t, "l1000000000:k", api.Entry{}, 0, api.ErrCut)
	holdRead(t, "l1:ki5ei1e1000000000:v", api.Entry{}, 0, api.ErrCut)
}

// P9.3: a part of another kind, one too few, one too many, or two that changed places.
func TestReadOfOtherParts(t *testing.T) {
	parts := []string{"l", "1:k", "i5e", "i1e", "1:v", "i9e", "e"}
	for i := range parts {
		for _, part := range []string{"l", "e", "x", "", "le", "i5e", "1:k", "0:", "l1:ke", "li5ee", "ie", ":", "-1:k", "01:k", "i05e", "i-0e", "i+5e", "5", "\x00", "\xff", "L", "I5e"} {
			other := slices.Clone(parts)
			other[i] = part
			holdReadWords(t, strings.Join(other, ""))
			holdReadWords(t, strings.Join(slices.Insert(slices.Clone(parts), i, part), ""))
		}
		for k := range i {
			other := slices.Clone(parts)
			other[i], other[k] = other[k], other[i]
			holdReadWords(t, strings.Join(other, ""))
		}
	}
	for _, s := range []string{
		"1:ki5ei1e1:vi9ee", "i5e", "e", "x", "le", "1:k", "ll1:ki5ei1e1:vi9eee", " l1:ki5ei1e1:vi9ee",
		"li5ei5ei1e1:vi9ee", "l1:k1:5i1e1:vi9ee", "l1:ki5e1:11:vi9ee", "l1:ki5ei1ei5ei9ee", "l1:ki5ei1e1:v1:9e", "l1:ki5ei1e1:vi9el", "l1:ki5ei1e1:vi9ei9ee", "l1:ki5ei1e1:vi9e0:e", "l1:ki5ei1e1:vi9elee",
		"l1:ki5ei1e1:ve", "l1:ki5ei1ei9ee", "l1:ki5e1:vi9ee", "li5ei1e1:vi9ee", "l1:kle", "llei5ei1e1:vi9ee", "l1:kleie1e1:vi9ee", "l1:ki5ei1elei9ee", "l1:ki5ei1e1:vlee",
		"l1:ki18446744073709551621ei1e1:vi9ee", "l1:ki5ei1e1:vi18446744073709551625ee", "l1:ki05ei1e1:vi9ee", "l1:ki5ei1e1:vi09ee", "l01:ki5ei1e1:vi9ee", "l1:ki5ei1e01:vi9ee", "l1:ki-0ei1e1:vi9ee",
		"l2:ki5ei1e1:vi9ee", "l1:ki5ei1e2:vi9ee", "l0:ki5ei1e1:vi9ee", "l1:ki5ei1e0:vi9ee", "l1000000001:ki5ei1e1:vi9ee", "l99999999999:ki5ei1e1:vi9ee",
	} {
		holdRead(t, s, api.Entry{}, 0, api.ErrForm)
	}
}

// P9.3: a reader that has an error already keeps it, whatever the bytes were; one that is nil has ErrNil.
func TestReadOfAReaderWithAnError(t *testing.T) {
	for want, fail := range map[api.Errno]func(r *ben.Reader){
		api.ErrForm: func(r *ben.Reader) { r.Int() },
		api.ErrLong: func(r *ben.Reader) { r.Open(); r.Text(0) },
		api.ErrCut:  func(r *ben.Reader) { entry.Read(r); r.Open() },
	} {
		r := ben.New(entry.Put(right()))
		fail(r)
		if r.Err() != want {
			t.Fatalf("the reader has the error %d, not %d", int(r.Err()), int(want))
		}
		for range 2 {
			if got := entry.Read(r); got != (api.Entry{}) || r.Err() != want || r.Left() != 0 {
				t.Errorf("Read = %s, error %d, left %d", show(got), int(r.Err()), r.Left())
			}
		}
	}
	var none *ben.Reader
	if got := entry.Read(none); got != (api.Entry{}) || none.Err() != api.ErrNil || none.Left() != 0 {
		t.Errorf("of nil: %s", show(got))
	}
}

// P9.3: the first error of the bytes stays: a second Read of the same reader tells nothing, though the bytes behind the fault were right.
func TestReadBehindAFault(t *testing.T) {
	r := ben.New([]byte("l1:ki5ei1e1:vi9ei9ee" + wantPut(right())))
	for range 2 {
		if got := entry.Read(r); got != (api.Entry{}) || r.Err() != api.ErrForm || r.Left() != 0 {
			t.Errorf("Read = %s, error %d, left %d", show(got), int(r.Err()), r.Left())
		}
	}
}

// P9.3: right bytes with each byte changed, left out, or put in ahead of it, against the chapter's words.
func TestReadOfChanged(t *testing.T) {
	b := entry.Put(api.Entry{Key: "ke", Time: 10, Origin: 12, Value: "1:v", Until: 10})
	for i := range b {
		for c := range 256 {
			other := slices.Clone(b)
			other[i] = byte(c)
			holdReadWords(t, string(other))
			holdReadWords(t, string(slices.Insert(slices.Clone(b), i, byte(c))))
		}
		holdReadWords(t, string(slices.Delete(slices.Clone(b), i, i+1)))
	}
}

// P9.3: rows of parts, all of several at each place, against the chapter's words.
func TestReadWords(t *testing.T) {
	places := [][]string{
		{"l", "", "ll"},
		{"1:k", "0:", "3:abc", "i5e", "2:k"},
		{"i5e", "i0e", "i-1e", "i1099511627776e", "i1099511627777e", "1:5", ""},
		{"i0e", "i65535e", "i65536e", "i-1e", "0:"},
		{"0:", "1:v", "5:i5eee", "i5e", ""},
		{"i5e", "i4e", "i0e", "i-1e", "i1099511627776e", "i1099511627777e", "le"},
		{"e", "", "ee", "i1ee", "el"},
	}
	stand, all := 0, 0
	var grow func(s string, place int)
	grow = func(s string, place int) {
		if place == len(places) {
			all++
			if holdReadWords(t, s) {
				stand++
			}
			return
		}
		for _, part := range places[place] {
			grow(s+part, place+1)
		}
	}
	grow("", 0)
	if stand < 200 || all-stand < 10_000 {
		t.Errorf("%d of %d stand: the rows say too little", stand, all)
	}
}

// FuzzRead holds what Read tells of any bytes against the chapter's words.
func FuzzRead(f *testing.F) {
	f.Add("l1:ki5ei1e1:vi9ee")
	f.Add("l0:i0ei0e0:i0eex")
	f.Add("l1:ki5ei65536e1:vi9ee")
	f.Fuzz(func(t *testing.T, s string) { holdReadWords(t, s) })
}
