package ben_test

import (
	"math"
	"math/big"
	"math/rand"
	"regexp"
	"strings"
	"testing"

	"watchfire/api"
	"watchfire/ben"
)

// P1.3: numbers that are laid are read again.
func TestNumbersAgain(t *testing.T) {
	numbers := []int64{0, math.MinInt64, math.MaxInt64}
	for n := int64(1); n > 0; n *= 3 {
		numbers = append(numbers, n, -n, n-1, 1-n)
	}
	for _, n := range numbers {
		r := ben.New(ben.Int(n))
		if got := r.Int(); got != n {
			t.Errorf("%d: read %d", n, got)
		}
		checkReader(t, "a number", r, 0, api.OK)
	}
}

// P1.3: texts that are laid are read again, whatever their bytes, with just so much room as they need.
func TestTextsAgain(t *testing.T) {
	for long := range 300 {
		b := make([]byte, long)
		for i := range b {
			b[i] = byte(i * 7)
		}
		r := ben.New(ben.Text(string(b)))
		if got := r.Text(long); got != string(b) {
			t.Errorf("%d bytes: read %q", long, got)
		}
		checkReader(t, "a text", r, 0, api.OK)
	}
}

// thing is something that may be laid: a list, a text, or a number.
type thing struct {
	isList, isText bool
	parts          []thing
	text           string
	number         int64
}

func draw(source *rand.Rand, deep int) thing {
	switch kind := source.Intn(3); {
	case kind == 0 && deep > 0:
		list := thing{isList: true}
		for range source.Intn(5) {
			list.parts = append(list.parts, draw(source, deep-1))
		}
		return list
	case kind == 1:
		b := make([]byte, source.Intn(12))
		source.Read(b)
		return thing{isText: true, text: string(b)}
	}
	return thing{number: int64(source.Uint64()) >> source.Intn(64)}
}

func lay(x thing) []byte {
	switch {
	case x.isList:
		var parts [][]byte
		for _, part := range x.parts {
			parts = append(parts, lay(part))
		}
		return ben.List(parts...)
	case x.isText:
		return ben.Text(x.text)
	}
	return ben.Int(x.number)
}

func readAgain(t *testing.T, r *ben.Reader, x thing) {
	switch {
	case x.isList:
		r.Open()
		for _, part := range x.parts {
			if !r.More() {
				t.Error("a list ends early")
			}
			readAgain(t, r, part)
		}
		if r.More() {
			t.Error("a list goes on")
		}
		r.Close()
	case x.isText:
		if got := r.Text(len(x.text)); got != x.text {
			t.Errorf("text %q, want %q", got, x.text)
		}
	default:
		if got := r.Int(); got != x.number {
			t.Errorf("number %d, want %d", got, x.number)
		}
	}
}

// P1.3: lists within lists that are laid are read again.
func TestListsAgain(t *testing.T) {
	source := rand.New(rand.NewSource(1))
	for range 2000 {
		x := draw(source, 4)
		b := lay(x)
		r := ben.New(b)
		readAgain(t, r, x)
		checkReader(t, string(b), r, 0, api.OK)
	}
}

// allRows calls do with each text of at most so many of these bytes.
func allRows(letters string, most int, do func(string)) {
	var grow func(string)
	grow = func(s string) {
		do(s)
		if len(s) == most {
			return
		}
		for i := range len(letters) {
			grow(s + letters[i:i+1])
		}
	}
	grow("")
}

var justDigits = regexp.MustCompile(`^(0|-?[1-9][0-9]*)$`)

// numberOf tells what a row of digits says, by the document's words: none, if it is not just the digits of a number from low to high.
func numberOf(row string, low, high int64) (int64, bool) {
	if !justDigits.MatchString(row) {
		return 0, false
	}
	n, _ := new(big.Int).SetString(row, 10)
	if n.Cmp(big.NewInt(low)) < 0 || n.Cmp(big.NewInt(high)) > 0 {
		return 0, false
	}
	return n.Int64(), true
}

// wantRow cuts s at the first end, by the document's words.
func wantRow(s, end string, most int) (row, rest string, err api.Errno) {
	row, rest, ended := strings.Cut(s, end)
	switch {
	case len(row) > most:
		return "", "", api.ErrForm
	case !ended:
		return "", "", api.ErrCut
	}
	return row, rest, api.OK
}

// wantInt tells what Int must, by the document's words: the number, how many bytes are left, the error.
func wantInt(s string) (int64, int, api.Errno) {
	if s == "" {
		return 0, 0, api.ErrCut
	}
	if s[0] != 'i' {
		return 0, 0, api.ErrForm
	}
	row, rest, err := wantRow(s[1:], "e", 20)
	if err != api.OK {
		return 0, 0, err
	}
	n, ok := numberOf(row, math.MinInt64, math.MaxInt64)
	if !ok {
		return 0, 0, api.ErrForm
	}
	return n, len(rest), api.OK
}

// wantText tells what Text must, likewise.
func wantText(s string, most int) (string, int, api.Errno) {
	if s == "" {
		return "", 0, api.ErrCut
	}
	if !strings.Contains("0123456789", s[:1]) {
		return "", 0, api.ErrForm
	}
	row, rest, err := wantRow(s, ":", 10)
	if err != api.OK {
		return "", 0, err
	}
	n, ok := numberOf(row, 0, 1e9)
	switch {
	case !ok:
		return "", 0, api.ErrForm
	case n > int64(most):
		return "", 0, api.ErrLong
	case n > int64(len(rest)):
		return "", 0, api.ErrCut
	}
	return rest[:n], len(rest) - int(n), api.OK
}

// checkIntOneWay: P1.2 of any bytes, and P1.3: what was read is just what Int lays.
func checkIntOneWay(t *testing.T, s string) {
	t.Helper()
	want, left, err := wantInt(s)
	r := ben.New([]byte(s))
	got := r.Int()
	if got != want {
		t.Errorf("%q: %d, want %d", s, got, want)
	}
	checkReader(t, s, r, left, err)
	if r.Err() == api.OK && string(ben.Int(got)) != s[:len(s)-r.Left()] {
		t.Errorf("%q is another way to lay %d", s, got)
	}
}

// checkTextOneWay: the same of Text.
func checkTextOneWay(t *testing.T, s string, most int) {
	t.Helper()
	want, left, err := wantText(s, most)
	r := ben.New([]byte(s))
	got := r.Text(most)
	if got != want {
		t.Errorf("%q: %q, want %q", s, got, want)
	}
	checkReader(t, s, r, left, err)
	if r.Err() == api.OK && string(ben.Text(got)) != s[:len(s)-r.Left()] {
		t.Errorf("%q is another way to lay %q", s, got)
	}
}

// P1.3 (and P1.2): of all short rows, those alone are read that are laid.
func TestOneWayAlone(t *testing.T) {
	allRows("ie:-+019lx", 5, func(s string) {
		checkIntOneWay(t, s)
		checkIntOneWay(t, "i"+s)
		checkTextOneWay(t, s, 1)
	})
}

// P1.3 (and P1.2): rows around the longest ones, and numbers around the greatest ones.
func TestOneWayAloneAtTheEdges(t *testing.T) {
	for _, row := range []string{"9223372036854775807", "-9223372036854775808", "1000000000", "x", "0", "-", "1"} {
		for _, ahead := range []string{"", "0", "-", "+"} {
			for behind := range 24 {
				s := ahead + row + strings.Repeat("0", behind)
				for _, end := range []string{"", "e", ":", "xe", "x:", "ee", ":e"} {
					checkIntOneWay(t, "i"+s+end)
					checkTextOneWay(t, s+end, math.MaxInt)
				}
			}
		}
	}
	for off := range int64(5) {
		n := new(big.Int).Add(big.NewInt(math.MaxInt64), big.NewInt(off-2))
		checkIntOneWay(t, "i"+n.String()+"e")
		checkIntOneWay(t, "i"+n.Neg(n).String()+"e")
	}
}

// FuzzReader holds any bytes against the document's words.
func FuzzReader(f *testing.F) {
	f.Add("i-5e", 0)
	f.Add("2:ab", 2)
	f.Fuzz(func(t *testing.T, s string, most int) {
		checkIntOneWay(t, s)
		checkTextOneWay(t, s, most)
	})
}
