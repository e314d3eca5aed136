package lex

import (
	"slices"
	"strings"
	"testing"

	"keyway/api"
)

// flawed fails unless a text has this flaw, and beside it no words.
func flawed(t *testing.T, s string, code api.Errno, at int) {
	t.Helper()
	words, flaw := Lex(s)
	if flaw != (api.Flaw{Code: code, At: at}) || len(words) != 0 {
		t.Fatalf("Lex(%.80q) = %v, %v; want the flaw %v at %v alone", s, words, flaw, code, at)
	}
}

// beginners are all bytes that begin a word, a space or a note, by the chapter.
const beginners = "abcdefghijklmnopqrstuvwxyzABCDEFGHIJKLMNOPQRSTUVWXYZ_0123456789" +
	"{}();:,=.@&*<+-" + " \t\n\r" + "#"

// tooGreat are numbers above 2^31, those at which integers go round among them.
var tooGreat = []string{
	"2147483649", "2147483650", "2147483658", "2147483700", "3000000000", "4294967295", "4294967296", "4294967297", "10000000000", "21474836480",
	"9223372036854775807", "9223372036854775808", "18446744073709551615", "18446744073709551616", "18446744073709551617", "18446744075857035264",
	"184467440737095516160", "100000000000000000000000000000000", "0002147483649", strings.Repeat("0", 50) + "18446744073709551617",
	strings.Repeat("9", 1000), "1" + strings.Repeat("0", 1000),
}

// 18.1: Name is false of kept names.
func TestNameOfKept(t *testing.T) {
	for _, s := range keptNames {
		if Name(s) {
			t.Errorf("%s is a name", s)
		}
	}
}

// 18.1: Name is false of what is none.
func TestNoName(t *testing.T) {
	for _, s := range slices.Concat(signs, tooGreat, []string{
		"", " ", "0", "1", "1a", "9_", "a b", " a", "a ", "\na", "a\n", "a#", "#a", "a-b", "a.b", "a$", "$a", "a\x00", "\x00", "\xff", "a\xff", "ä", "aä", "é1", "a\u200b", "ａ", "٣",
	}) {
		if Name(s) {
			t.Errorf("%q is a name", s)
		}
	}
}

// 18.1: ErrWord at each byte that begins no word, wherever it stands; and at no other.
func TestBytesThatBeginNoWord(t *testing.T) {
	for b := range 256 {
		s := string([]byte{byte(b)})
		if strings.Contains(beginners, s) {
			if _, flaw := Lex(s); flaw != (api.Flaw{}) {
				t.Errorf("Lex(%q): %v", s, flaw)
			}
			continue
		}
		flawed(t, s, api.ErrWord, 0)
		flawed(t, s+s, api.ErrWord, 0)
		flawed(t, "a "+s, api.ErrWord, 2)
		flawed(t, "a"+s+"b", api.ErrWord, 1)
		flawed(t, "12"+s, api.ErrWord, 2)
		flawed(t, "=="+s, api.ErrWord, 2)
		flawed(t, "# x\n "+s+" # y", api.ErrWord, 5)
	}
}

// 18.1: what stands in a note is no flaw.
func TestNoFlawInNotes(t *testing.T) {
	for b := range 256 {
		if s := string([]byte{byte(b)}); s != "\n" {
			parted(t, "#"+s, end(2))
			parted(t, "a #"+s+s+"\nb", name(0, "a"), name(6, "b"), end(7))
		}
	}
	for _, s := range tooGreat {
		parted(t, "# "+s, end(len(s)+2))
	}
}

// 18.1: ErrWord at a number above 2^31, where it begins, whatever noughts stand ahead in it.
func TestNumbersThatAreTooGreat(t *testing.T) {
	for _, s := range tooGreat {
		flawed(t, s, api.ErrWord, 0)
		flawed(t, "x = "+s+";", api.ErrWord, 4)
		flawed(t, "-"+s, api.ErrWord, 1)
		flawed(t, s+"a", api.ErrWord, 0)
	}
}

// 18.1: digits that belong to a name are no number.
func TestDigitsOfANameAreNoNumber(t *testing.T) {
	for _, digits := range tooGreat {
		s := "a" + digits
		parted(t, s, name(0, s), end(len(s)))
	}
}

// 18.1: the first flaw is told, of whichever sort.
func TestTheFirstFlaw(t *testing.T) {
	flawed(t, "a $ 2147483649", api.ErrWord, 2)
	flawed(t, "a 2147483649 $", api.ErrWord, 2)
	flawed(t, "1 2 3 $ % !", api.ErrWord, 6)
	flawed(t, "2147483648 2147483649 2147483650", api.ErrWord, 11)
	flawed(t, "# $\n%", api.ErrWord, 4)
}

// 18.1: ErrMuch at MostSource of more bytes, ahead of all other flaws, whatever they are.
func TestMoreThanMostSource(t *testing.T) {
	const bytes = api.MostSource
	for _, one := range []string{" ", "a", "1", "0", ";", "#", "$", "\n", "\xff"} {
		flawed(t, strings.Repeat(one, bytes+1), api.ErrMuch, bytes)
		flawed(t, strings.Repeat(one, 3*bytes), api.ErrMuch, bytes)
	}
	flawed(t, "$"+strings.Repeat(" ", bytes), api.ErrMuch, bytes)
	flawed(t, strings.Repeat(" ", bytes)+"$", api.ErrMuch, bytes)
}

// 18.1: of just MostSource bytes, flaws are told where they stand, the last byte as well.
func TestFlawsAtMostSource(t *testing.T) {
	const bytes = api.MostSource
	flawed(t, strings.Repeat(" ", bytes-1)+"$", api.ErrWord, bytes-1)
	flawed(t, "$"+strings.Repeat(" ", bytes-1), api.ErrWord, 0)
	flawed(t, strings.Repeat("9", bytes), api.ErrWord, 0)
	flawed(t, strings.Repeat("\xff", bytes), api.ErrWord, 0)
}
