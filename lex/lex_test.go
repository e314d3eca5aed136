package lex

import (
	"math/big"
	"math/rand"
	"regexp"
	"slices"
	"strconv"
	"strings"
	"testing"

	"keyway/api"
)

const most = 1 << 31 // the greatest number, by the chapter

// keptNames are all of them, by the chapter, in its order.
var keptNames = []string{
	"global", "field", "fn", "var", "int", "ref", "fun", "if", "else", "while",
	"lock", "unlock", "spawn", "return", "skip", "new", "null",
}

// signs are all of them, by the chapter, in its order.
var signs = []string{"==", "{", "}", "(", ")", ";", ":", ",", "=", ".", "@", "&", "*", "<", "+", "-"}

// names are some that may be.
var names = []string{
	"a", "z", "A", "Z", "_", "a1", "A_9", "_0", "__", "a0123456789", "main", "h",
	"Global", "GLOBAL", "globals", "glob", "global1", "_fn", "fn_", "f", "nul", "nulls", "iff", "els", "newer",
	"abcdefghijklmnopqrstuvwxyz_ABCDEFGHIJKLMNOPQRSTUVWXYZ_0123456789",
}

// numbers are some that may be.
var numbers = []int64{0, 1, 2, 7, 9, 10, 99, 12345, 1<<31 - 1, most}

func name(at int, s string) api.Token { return api.Token{Kind: api.TokName, At: at, S: s} }

func kept(at int, s string) api.Token { return api.Token{Kind: api.TokWord, At: at, S: s} }

func signOf(at int, s string) api.Token { return api.Token{Kind: api.TokSign, At: at, S: s} }

func integer(at int, s string, n int64) api.Token {
	return api.Token{Kind: api.TokInt, At: at, S: s, N: n}
}

func end(at int) api.Token { return api.Token{Kind: api.TokEnd, At: at} }

// parted fails unless these are the words of a text, and it has no flaw.
func parted(t *testing.T, s string, want ...api.Token) {
	t.Helper()
	words, flaw := Lex(s)
	if flaw != (api.Flaw{}) || !slices.Equal(words, want) {
		t.Fatalf("Lex(%.80q) = %v, %v; want %v", s, words, flaw, want)
	}
}

// 18.1: Kept is true of each name that the chapter tells.
func TestKept(t *testing.T) {
	for _, s := range keptNames {
		if !Kept(s) {
			t.Errorf("%s is not kept", s)
		}
	}
}

// 18.1: Kept is false of all others, be they names or none.
func TestNotKept(t *testing.T) {
	others := slices.Concat(names, signs, []string{"", " ", "0", "fn ", " fn", "fn\x00", "f n", "if else", "fnvar", "größe", "\xff"})
	for _, s := range keptNames {
		others = append(others, s+s, s+"_", "_"+s, s+" ", strings.ToUpper(s), strings.ToUpper(s[:1])+s[1:], s[1:])
		for at := range s {
			others = append(others, s[:at])
		}
	}
	for _, s := range others {
		if Kept(s) && !slices.Contains(keptNames, s) {
			t.Errorf("%q is kept", s)
		}
	}
}

// 18.1: Name is true of texts of letters, _ and digits, no digit first, that are not kept.
func TestName(t *testing.T) {
	for _, s := range slices.Concat(names, []string{strings.Repeat("a", api.MostSource+1)}) {
		if !Name(s) {
			t.Errorf("%.80q is no name", s)
		}
	}
}

// 18.1: of what stands in a name, and what at first, each byte is asked.
func TestNameOfEachByte(t *testing.T) {
	const digits = "0123456789"
	const letters = "abcdefghijklmnopqrstuvwxyzABCDEFGHIJKLMNOPQRSTUVWXYZ_"
	for b := range 256 {
		s := string([]byte{byte(b)})
		first := strings.Contains(letters, s)
		within := strings.Contains(letters+digits, s)
		for text, want := range map[string]bool{
			s: first, s + "a": first, s + "1": first,
			"a" + s: within, "a" + s + "b": within, "_1" + s: within,
		} {
			if Name(text) != (want && !Kept(text)) {
				t.Errorf("Name(%q) = %v", text, Name(text))
			}
		}
	}
}

// 18.1: the chapter's example.
func TestExample(t *testing.T) {
	parted(t, "a1==2", name(0, "a1"), signOf(2, "=="), integer(4, "2", 2), end(5))
}

// 18.1: where no word is, TokEnd is the one word, at the end of the text.
func TestNoWords(t *testing.T) {
	for _, s := range []string{"", " ", "\t", "\n", "\r", " \t\r\n\n ", "#", "##", "# a", "# a\n", "#\n#", "# a\n\t# b\r\n \n"} {
		parted(t, s, end(len(s)))
	}
}

// 18.1: each kept name is a word of its own kind, and names that are like it are names.
func TestKindsOfNames(t *testing.T) {
	for _, s := range keptNames {
		parted(t, s, kept(0, s), end(len(s)))
		parted(t, " "+s+"\n", kept(1, s), end(len(s)+2))
	}
	for _, s := range names {
		parted(t, s, name(0, s), end(len(s)))
	}
}

// 18.1: the digits of a number are its text, whatever noughts stand ahead, and N is what they say.
func TestNumbers(t *testing.T) {
	for _, n := range numbers {
		for _, ahead := range []string{"", "0", "000", strings.Repeat("0", 100)} {
			s := ahead + strconv.FormatInt(n, 10)
			parted(t, s, integer(0, s, n), end(len(s)))
		}
	}
	parted(t, "1 23\t456", integer(0, "1", 1), integer(2, "23", 23), integer(5, "456", 456), end(8))
}

// 18.1: each sign is a word; of what begins with ==, that is the sign.
func TestSigns(t *testing.T) {
	for _, s := range signs {
		parted(t, s, signOf(0, s), end(len(s)))
		parted(t, "a"+s+"1", name(0, "a"), signOf(1, s), integer(1+len(s), "1", 1), end(2+len(s)))
	}
	parted(t, "= =", signOf(0, "="), signOf(2, "="), end(3))
	parted(t, "===", signOf(0, "=="), signOf(2, "="), end(3))
	parted(t, "====", signOf(0, "=="), signOf(2, "=="), end(4))
	parted(t, "<=", signOf(0, "<"), signOf(1, "="), end(2))
	parted(t, "+==-", signOf(0, "+"), signOf(1, "=="), signOf(3, "-"), end(4))
}

// 18.1: two signs that stand side by side are two words, but = and = are one.
func TestPairsOfSigns(t *testing.T) {
	for _, a := range signs[1:] {
		for _, b := range signs[1:] {
			if a != "=" || b != "=" {
				parted(t, a+b, signOf(0, a), signOf(1, b), end(2))
			}
		}
	}
}

// 18.1: words need nothing between them where each ends by itself.
func TestSideBySide(t *testing.T) {
	parted(t, "1a", integer(0, "1", 1), name(1, "a"), end(2))
	parted(t, "0_", integer(0, "0", 0), name(1, "_"), end(2))
	parted(t, "9fn", integer(0, "9", 9), kept(1, "fn"), end(3))
	parted(t, "a.b", name(0, "a"), signOf(1, "."), name(2, "b"), end(3))
	parted(t, "1.5", integer(0, "1", 1), signOf(1, "."), integer(2, "5", 5), end(3))
	parted(t, "-1", signOf(0, "-"), integer(1, "1", 1), end(2))
	parted(t, "fn1", name(0, "fn1"), end(3))
}

// 18.1: spaces and notes part words, and are none.
func TestBetweenWords(t *testing.T) {
	for _, gap := range []string{" ", "\t", "\n", "\r", "\r\n", " \t\r\n ", "#\n", "# x == $ 9999999999\n", " # a # b\n", "#\n#\n\n#\n", "# ä \xff\x00\n", "#\r\n"} {
		to := 1 + len(gap)
		parted(t, "a"+gap+"b", name(0, "a"), name(to, "b"), end(to+1))
		parted(t, "="+gap+"=", signOf(0, "="), signOf(to, "="), end(to+1))
		parted(t, "1"+gap+"2", integer(0, "1", 1), integer(to, "2", 2), end(to+1))
		parted(t, gap+"fn"+gap, kept(to-1, "fn"), end(2*to))
	}
}

// 18.1: a note goes to the end of the line, which is a line feed or the end of the text.
func TestNotes(t *testing.T) {
	parted(t, "a # b", name(0, "a"), end(5))
	parted(t, "a#b\nc", name(0, "a"), name(4, "c"), end(5))
	parted(t, "a#b\rc\nd", name(0, "a"), name(6, "d"), end(7))
	parted(t, "#a\n\n#b\nc#", name(7, "c"), end(9))
}

// 18.1: the words of a program.
func TestProgram(t *testing.T) {
	parted(t, "global g: int;\nfn f(){ @g = -3; }",
		kept(0, "global"), name(7, "g"), signOf(8, ":"), kept(10, "int"), signOf(13, ";"),
		kept(15, "fn"), name(18, "f"), signOf(19, "("), signOf(20, ")"), signOf(21, "{"),
		signOf(23, "@"), name(24, "g"), signOf(26, "="), signOf(28, "-"), integer(29, "3", 3), signOf(30, ";"),
		signOf(32, "}"), end(33))
}

// 18.1: a text of MostSource bytes is parted, be they one word, many, or none.
func TestMostSource(t *testing.T) {
	const bytes = api.MostSource
	parted(t, strings.Repeat(" ", bytes), end(bytes))
	parted(t, "#"+strings.Repeat("x", bytes-1), end(bytes))
	parted(t, strings.Repeat("x", bytes), name(0, strings.Repeat("x", bytes)), end(bytes))
	parted(t, strings.Repeat("0", bytes-1)+"7", integer(0, strings.Repeat("0", bytes-1)+"7", 7), end(bytes))
	parted(t, strings.Repeat(" ", bytes-1)+"7", integer(bytes-1, "7", 7), end(bytes))
	var all []api.Token
	for at := range bytes {
		all = append(all, signOf(at, ";"))
	}
	parted(t, strings.Repeat(";", bytes), append(all, end(bytes))...)
}

// R2, R4: what Lex answers is the caller's own, and the same each time.
func TestTheCallersOwn(t *testing.T) {
	const s = "fn a == 3"
	first, _ := Lex(s)
	want := slices.Clone(first)
	clear(first)
	parted(t, s, want...)
	again, _ := Lex(s)
	_ = append(again[:1], api.Token{Kind: 9})
	parted(t, s, want...)
}

var (
	gapHead  = regexp.MustCompile(`^([ \t\n\r]|#[^\n]*)*`)
	wordHead = regexp.MustCompile(`^(==|[{}();:,=.@&*<+-]|[A-Za-z_][A-Za-z0-9_]*|[0-9]+)`)
)

// model is what Lex has to answer, worked out by the chapter's words alone.
func model(s string) ([]api.Token, api.Flaw) {
	if len(s) > api.MostSource {
		return nil, api.Flaw{Code: api.ErrMuch, At: api.MostSource}
	}
	var all []api.Token
	for at := 0; ; {
		at += len(gapHead.FindString(s[at:]))
		if at == len(s) {
			return append(all, end(at)), api.Flaw{}
		}
		w := wordHead.FindString(s[at:])
		n, isInt := new(big.Int).SetString(w, 10)
		switch {
		case w == "" || isInt && n.Cmp(big.NewInt(most)) > 0:
			return nil, api.Flaw{Code: api.ErrWord, At: at}
		case isInt:
			all = append(all, integer(at, w, n.Int64()))
		case slices.Contains(keptNames, w):
			all = append(all, kept(at, w))
		case slices.Contains(signs, w):
			all = append(all, signOf(at, w))
		default:
			all = append(all, name(at, w))
		}
		at += len(w)
	}
}

// modelled fails unless Lex answers what the model does, and tells whether the text has a flaw.
func modelled(t *testing.T, s string) bool {
	t.Helper()
	words, flaw := Lex(s)
	wantWords, wantFlaw := model(s)
	if flaw != wantFlaw || !slices.Equal(words, wantWords) {
		t.Fatalf("Lex(%q) = %v, %v; want %v, %v", s, words, flaw, wantWords, wantFlaw)
	}
	return flaw != api.Flaw{}
}

// 18.1: texts made by chance, of words, of what stands between them and now and then of what begins none.
func TestTextsByChance(t *testing.T) {
	r := rand.New(rand.NewSource(18))
	gaps := []string{" ", "\t", "\n", "\r", "# $ 9\n", "#\n", "#"}
	wrong := []string{"$", "\x00", "\xff", "ä", "2147483649", "99999999999999999999", ">", "/"}
	flaws := 0
	for range 20000 {
		var s strings.Builder
		for range r.Intn(12) {
			from := [][]string{names, keptNames, signs, gaps, gaps, {"0", "7", "42", "2147483648"}}[r.Intn(6)]
			if r.Intn(30) == 0 {
				from = wrong
			}
			s.WriteString(from[r.Intn(len(from))])
		}
		if modelled(t, s.String()) {
			flaws++
		}
	}
	if flaws < 1000 || flaws > 19000 {
		t.Errorf("%d of the texts have a flaw: too few of one sort are tried", flaws)
	}
}

// 18.1: all texts of two bytes, whatever they are.
func TestAllPairsOfBytes(t *testing.T) {
	for a := range 256 {
		for b := range 256 {
			modelled(t, string([]byte{byte(a), byte(b)}))
		}
	}
}

// 18.1: what Name says of a text is what Lex makes of it: one word, a name.
func TestNameAndLex(t *testing.T) {
	texts := slices.Concat(names, keptNames, signs, []string{"", "1", "1a", "a b", " a", "a ", "a\n", "a#", "$", "ä"})
	for _, s := range texts {
		words, _ := Lex(s)
		isOne := slices.Equal(words, []api.Token{name(0, s), end(len(s))})
		if Name(s) != isOne {
			t.Errorf("Name(%q) = %v; its words: %v", s, Name(s), words)
		}
	}
}
