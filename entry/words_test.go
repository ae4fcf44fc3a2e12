package entry_test

import (
	"fmt"
	"math/big"
	"regexp"
	"strings"

	"watchfire/api"
)

// wantCheck tells P9.1's words.
func wantCheck(e api.Entry) api.Errno {
	switch {
	case len(e.Key) == 0, len(e.Key) > 1024, len(e.Value) > 8192:
		return api.ErrLong
	case e.Time < 0, e.Time > 1099511627776, e.Until < e.Time, e.Until > 1099511627776:
		return api.ErrTime
	}
	return api.OK
}

// wantAbove tells P9.2's words, one case a field.
func wantAbove(a, b api.Entry) bool {
	return a.Time > b.Time ||
		a.Time == b.Time && a.Origin > b.Origin ||
		a.Time == b.Time && a.Origin == b.Origin && valueIsAbove(a.Value, b.Value) ||
		a.Time == b.Time && a.Origin == b.Origin && a.Value == b.Value && a.Until > b.Until
}

// valueIsAbove compares byte by byte: a beginning is below what is longer.
func valueIsAbove(a, b string) bool {
	for i := range len(a) {
		if i == len(b) {
			return true
		}
		if a[i] != b[i] {
			return a[i] > b[i]
		}
	}
	return false
}

// wantPut tells the bytes of an entry, by the words of P9.3 and of P1.1.
func wantPut(e api.Entry) string {
	return fmt.Sprintf("l%d:%si%dei%de%d:%si%dee", len(e.Key), e.Key, e.Time, e.Origin, len(e.Value), e.Value, e.Until)
}

// grid tells entries of one key that differ in each field, in some, or in none; not all of them may be.
func grid() []api.Entry {
	var l []api.Entry
	for _, time := range []int{-1, 0, 5, 6, 1 << 40} {
		for _, origin := range []uint16{0, 1, 255, 256, 65535} {
			for _, value := range []string{"", "a", "ab", "b", "\xff"} {
				for _, until := range []int{-1, 0, 5, 6, 1 << 40} {
					l = append(l, wrote(time, origin, value, until))
				}
			}
		}
	}
	return l
}

// smallGrid tells fewer ones, for what is asked of each three.
func smallGrid() []api.Entry {
	var l []api.Entry
	for _, time := range []int{4, 5, 6} {
		for _, origin := range []uint16{0, 1, 65535} {
			for _, value := range []string{"", "a", "ab", "\xff"} {
				for _, until := range []int{6, 7, 1 << 40} {
					l = append(l, wrote(time, origin, value, until))
				}
			}
		}
	}
	return l
}

var (
	aNumber = regexp.MustCompile(`^i(0|-?[1-9][0-9]*)e`)
	aLength = regexp.MustCompile(`^(0|[1-9][0-9]*):`)
)

// cutNumber tells the number of 64 bits that s begins with, and what is behind it.
func cutNumber(s string) (n int64, rest string, ok bool) {
	found := aNumber.FindStringSubmatch(s)
	if found == nil {
		return 0, "", false
	}
	great, _ := new(big.Int).SetString(found[1], 10)
	return great.Int64(), s[len(found[0]):], great.IsInt64()
}

// cutText tells the text that s begins with, and what is behind it.
func cutText(s string) (text, rest string, ok bool) {
	found := aLength.FindStringSubmatch(s)
	if found == nil {
		return "", "", false
	}
	rest = s[len(found[0]):]
	long, _ := new(big.Int).SetString(found[1], 10)
	if long.Cmp(big.NewInt(int64(len(rest)))) > 0 {
		return "", "", false
	}
	return rest[:long.Int64()], rest[long.Int64():], true
}

// wantRead tells P9.3's words of a reader that stands ahead of s: the entry, how many bytes are left, and whether s tells one (else the reader has an error, and nothing is left). One that does not stand is told as zero, and is read nonetheless.
func wantRead(s string) (e api.Entry, left int, tells bool) {
	rest, isList := strings.CutPrefix(s, "l")
	key, rest, ok1 := cutText(rest)
	time, rest, ok2 := cutNumber(rest)
	origin, rest, ok3 := cutNumber(rest)
	value, rest, ok4 := cutText(rest)
	until, rest, ok5 := cutNumber(rest)
	rest, ends := strings.CutPrefix(rest, "e")
	if !isList || !ok1 || !ok2 || !ok3 || !ok4 || !ok5 || !ends {
		return api.Entry{}, 0, false
	}
	e = api.Entry{Key: key, Time: int(time), Origin: uint16(origin), Value: value, Until: int(until)}
	if origin < 0 || origin > 65535 || wantCheck(e) != api.OK {
		e = api.Entry{}
	}
	return e, len(rest), true
}
