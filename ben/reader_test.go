package ben_test

import (
	"math"
	"strings"
	"testing"

	"watchfire/api"
	"watchfire/ben"
)

// checkReader holds what a reader tells of itself against what it must.
func checkReader(t *testing.T, what string, r *ben.Reader, left int, err api.Errno) {
	t.Helper()
	if r.Left() != left || r.Err() != err {
		t.Errorf("%q: left %d, error %d; want %d, %d", what, r.Left(), int(r.Err()), left, int(err))
	}
}

// P1.2: New, Left, Err.
func TestNewStandsAhead(t *testing.T) {
	for _, s := range []string{"", "e", "i5e", "no such thing", "\x00\xff"} {
		checkReader(t, s, ben.New([]byte(s)), len(s), api.OK)
	}
	if r := ben.New(nil); r == nil {
		t.Error("New(nil) is nil")
	} else {
		checkReader(t, "no bytes", r, 0, api.OK)
	}
}

// Rule 3: the bytes are not kept, and not changed.
func TestNewKeepsACopy(t *testing.T) {
	b := []byte("i5e2:ab")
	r := ben.New(b)
	other := ben.New(b)
	copy(b, "xxxxxxx")
	if n, s := r.Int(), r.Text(2); n != 5 || s != "ab" {
		t.Errorf("read %d, %q", n, s)
	}
	checkReader(t, "the first one", r, 0, api.OK)
	checkReader(t, "the other one", other, 7, api.OK)
	if string(b) != "xxxxxxx" {
		t.Errorf("argument: %q", b)
	}
}

// P1.2: Int: the number, and what is left behind it.
func TestIntIsRead(t *testing.T) {
	for _, c := range []struct {
		s    string
		n    int64
		left int
	}{
		{"i0e", 0, 0},
		{"i5e", 5, 0},
		{"i-5e", -5, 0},
		{"i10e", 10, 0},
		{"i5ee", 5, 1},
		{"i5ei6e", 5, 3},
		{"i9223372036854775807e", math.MaxInt64, 0},
		{"i-9223372036854775808e", math.MinInt64, 0},
		{"i-9223372036854775808e" + strings.Repeat("x", 99), math.MinInt64, 99},
	} {
		r := ben.New([]byte(c.s))
		if n := r.Int(); n != c.n {
			t.Errorf("%q: %d", c.s, n)
		}
		checkReader(t, c.s, r, c.left, api.OK)
	}
}

// P1.2: Int: its errors, and which of them comes first.
func TestIntErrors(t *testing.T) {
	for s, want := range map[string]api.Errno{
		"":    api.ErrCut,
		"5":   api.ErrForm,
		"e":   api.ErrForm,
		"I5e": api.ErrForm,
		"-5e": api.ErrForm,
		"l":   api.ErrForm,
		"2:a": api.ErrForm,

		"i":                                  api.ErrCut,
		"i5":                                 api.ErrCut,
		"i-":                                 api.ErrCut,
		"ix":                                 api.ErrCut,
		"i05":                                api.ErrCut,
		"i-9223372036854775808":              api.ErrCut,
		"i" + strings.Repeat("x", 20):        api.ErrCut,
		"i" + strings.Repeat("x", 21):        api.ErrForm,
		"i" + strings.Repeat("1", 21):        api.ErrForm,
		"i" + strings.Repeat("1", 21) + "e":  api.ErrForm,
		"i" + strings.Repeat("0", 20) + "e":  api.ErrForm,
		"i" + strings.Repeat("0", 20) + "5e": api.ErrForm,
		"i" + strings.Repeat("x", 9999):      api.ErrForm,

		"ie":                     api.ErrForm,
		"i-e":                    api.ErrForm,
		"i-0e":                   api.ErrForm,
		"i00e":                   api.ErrForm,
		"i05e":                   api.ErrForm,
		"i-05e":                  api.ErrForm,
		"i+5e":                   api.ErrForm,
		"i--5e":                  api.ErrForm,
		"i5-e":                   api.ErrForm,
		"i 5e":                   api.ErrForm,
		"i5 e":                   api.ErrForm,
		"i1_0e":                  api.ErrForm,
		"i0x5e":                  api.ErrForm,
		"i5.0e":                  api.ErrForm,
		"i\x00e":                 api.ErrForm,
		"i\xd9\xa5e":             api.ErrForm,
		"i9223372036854775808e":  api.ErrForm,
		"i-9223372036854775809e": api.ErrForm,
		"i18446744073709551621e": api.ErrForm,
		"i99999999999999999999e": api.ErrForm,
	} {
		r := ben.New([]byte(s))
		if n := r.Int(); n != 0 {
			t.Errorf("%q: %d", s, n)
		}
		checkReader(t, s, r, 0, want)
	}
}

// P1.2: Text: the bytes, and what is left behind them.
func TestTextIsRead(t *testing.T) {
	for _, c := range []struct {
		s    string
		most int
		want string
		left int
	}{
		{"0:", 0, "", 0},
		{"0:", 9, "", 0},
		{"0:x", 0, "", 1},
		{"2:ab", 2, "ab", 0},
		{"2:ab", math.MaxInt, "ab", 0},
		{"2:abc", 2, "ab", 1},
		{"3:1:ee", 3, "1:e", 1},
		{"2:\x00\xff", 2, "\x00\xff", 0},
		{"10:0123456789e", 10, "0123456789", 1},
	} {
		r := ben.New([]byte(c.s))
		if s := r.Text(c.most); s != c.want {
			t.Errorf("%q: %q", c.s, s)
		}
		checkReader(t, c.s, r, c.left, api.OK)
	}
}

// P1.2: Text: its errors, and which of them comes first.
func TestTextErrors(t *testing.T) {
	for _, c := range []struct {
		s    string
		most int
		want api.Errno
	}{
		{"", 9, api.ErrCut},
		{"", -1, api.ErrCut},
		{"x", 9, api.ErrForm},
		{":", 9, api.ErrForm},
		{"/", 9, api.ErrForm},
		{";", 9, api.ErrForm},
		{"-1", 9, api.ErrForm},
		{"-1:", 9, api.ErrForm},
		{"+1:a", 9, api.ErrForm},
		{" 1:a", 9, api.ErrForm},
		{"/1:a", 9, api.ErrForm},
		{"i5e", 9, api.ErrForm},
		{"\xff", 9, api.ErrForm},

		{"3", 9, api.ErrCut},
		{"3x", 9, api.ErrCut},
		{"03", 9, api.ErrCut},
		{"9", 5, api.ErrCut},
		{"1234567890", 5, api.ErrCut},
		{"1xxxxxxxxx", 5, api.ErrCut},
		{"12345678901", 5, api.ErrForm},
		{"1xxxxxxxxxx", 5, api.ErrForm},
		{"12345678901:", 5, api.ErrForm},
		{"00000000001:a", 5, api.ErrForm},
		{"1" + strings.Repeat("x", 9999), 5, api.ErrForm},

		{"03:abc", 9, api.ErrForm},
		{"00:", 9, api.ErrForm},
		{"3x:abc", 9, api.ErrForm},
		{"3 :abc", 9, api.ErrForm},
		{"1_0:0123456789", 99, api.ErrForm},
		{"0x1:a", 9, api.ErrForm},
		{"1000000001:", 9, api.ErrForm},
		{"1000000001:", math.MaxInt, api.ErrForm},
		{"9999999999:", math.MaxInt, api.ErrForm},

		{"9:", 5, api.ErrLong},
		{"3:abc", 2, api.ErrLong},
		{"1:a", 0, api.ErrLong},
		{"0:", -1, api.ErrLong},
		{"0:", math.MinInt, api.ErrLong},
		{"1000000000:", 999_999_999, api.ErrLong},

		{"1000000000:", 1_000_000_000, api.ErrCut},
		{"3:", 9, api.ErrCut},
		{"3:ab", 9, api.ErrCut},
		{"3:ab", 3, api.ErrCut},
	} {
		r := ben.New([]byte(c.s))
		if s := r.Text(c.most); s != "" {
			t.Errorf("%q: %q", c.s, s)
		}
		checkReader(t, c.s, r, 0, c.want)
	}
}

// P1.2: Open and Close.
func TestOpenAndClose(t *testing.T) {
	for _, c := range []struct {
		s    string
		call func(*ben.Reader)
		left int
		want api.Errno
	}{
		{"l", (*ben.Reader).Open, 0, api.OK},
		{"le", (*ben.Reader).Open, 1, api.OK},
		{"", (*ben.Reader).Open, 0, api.ErrCut},
		{"e", (*ben.Reader).Open, 0, api.ErrForm},
		{"i5e", (*ben.Reader).Open, 0, api.ErrForm},
		{"1:l", (*ben.Reader).Open, 0, api.ErrForm},
		{"e", (*ben.Reader).Close, 0, api.OK},
		{"ee", (*ben.Reader).Close, 1, api.OK},
		{"", (*ben.Reader).Close, 0, api.ErrCut},
		{"l", (*ben.Reader).Close, 0, api.ErrForm},
		{"i5e", (*ben.Reader).Close, 0, api.ErrForm},
		{"E", (*ben.Reader).Close, 0, api.ErrForm},
	} {
		r := ben.New([]byte(c.s))
		c.call(r)
		checkReader(t, c.s, r, c.left, c.want)
	}
}

// P1.2: More reads nothing, and what it misses is no error.
func TestMore(t *testing.T) {
	for s, want := range map[string]bool{
		"": false, "e": false, "exx": false,
		"i5e": true, "l": true, "0:": true, "x": true, "E": true, "\x00": true,
	} {
		r := ben.New([]byte(s))
		if r.More() != want || r.More() != want {
			t.Errorf("%q: not %t", s, want)
		}
		checkReader(t, s, r, len(s), api.OK)
	}
}

// P1.2: a whole list, read as it was laid.
func TestListIsRead(t *testing.T) {
	r := ben.New([]byte("li1ei-2el2:abee1:x"))
	r.Open()
	var numbers []int64
	for range 2 {
		numbers = append(numbers, r.Int())
	}
	r.Open()
	if !r.More() || r.Text(2) != "ab" || r.More() {
		t.Error("the inner list")
	}
	r.Close()
	if r.More() {
		t.Error("the outer list goes on")
	}
	r.Close()
	if numbers[0] != 1 || numbers[1] != -2 {
		t.Error(numbers)
	}
	checkReader(t, "behind the list", r, 3, api.OK)
	if s := r.Text(1); s != "x" {
		t.Error(s)
	}
	checkReader(t, "behind all", r, 0, api.OK)
}

// checkSilent asks of a reader that it tells nothing any more, whatever it is asked.
func checkSilent(t *testing.T, what string, r *ben.Reader, err api.Errno) {
	t.Helper()
	for range 2 {
		if n, s := r.Int(), r.Text(99); n != 0 || s != "" {
			t.Errorf("%s: told %d, %q", what, n, s)
		}
		r.Open()
		if r.More() {
			t.Errorf("%s: more", what)
		}
		r.Close()
		if s := r.Text(-1); s != "" {
			t.Errorf("%s: told %q", what, s)
		}
		checkReader(t, what, r, 0, err)
	}
}

// P1.2: the first error stays, whichever call came to it.
func TestFirstErrorStays(t *testing.T) {
	number := func(r *ben.Reader) { r.Int() }
	text := func(r *ben.Reader) { r.Text(5) }
	for _, c := range []struct {
		s    string
		call func(*ben.Reader)
		want api.Errno
	}{
		{"x" + "i5e", number, api.ErrForm},
		{"i05e" + "i5e2:abl", number, api.ErrForm},
		{"i", number, api.ErrCut},
		{"", number, api.ErrCut},
		{"xi5e", text, api.ErrForm},
		{"02:ab" + "i5e", text, api.ErrForm},
		{"6:abcdef" + "i5e", text, api.ErrLong},
		{"5:i5ee", text, api.ErrCut},
		{"", text, api.ErrCut},
		{"i5e", (*ben.Reader).Open, api.ErrForm},
		{"", (*ben.Reader).Open, api.ErrCut},
		{"i5e", (*ben.Reader).Close, api.ErrForm},
		{"", (*ben.Reader).Close, api.ErrCut},
	} {
		r := ben.New([]byte(c.s))
		c.call(r)
		checkSilent(t, c.s, r, c.want)
	}
}

// P1.2: an error behind what was read well.
func TestErrorBehindWhatWasRead(t *testing.T) {
	r := ben.New([]byte("li5e3:abci6e"))
	r.Open()
	if n := r.Int(); n != 5 {
		t.Error(n)
	}
	if s := r.Text(2); s != "" {
		t.Error(s)
	}
	checkSilent(t, "behind ErrLong", r, api.ErrLong)
}

// P1.2: a reader that is nil.
func TestNilReader(t *testing.T) {
	checkSilent(t, "nil", nil, api.ErrNil)
}
