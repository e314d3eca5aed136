package parse

import (
	"math/rand"
	"reflect"
	"strings"
	"testing"

	"keyway/api"
)

// flawed fails unless a text has this flaw, and beside it no program.
func flawed(t *testing.T, s string, code api.Errno, at int) {
	t.Helper()
	p, flaw := Parse(s)
	if flaw != (api.Flaw{Code: code, At: at}) || !reflect.DeepEqual(p, api.Tree{}) {
		t.Fatalf("Parse(%.200q) = %+v, %v; want the flaw %v at %v alone", s, p, flaw, code, at)
	}
}

// syntax fails unless a text has the flaw ErrSyntax where the mark | stands in it.
func syntax(t *testing.T, marked string) {
	t.Helper()
	flawed(t, strings.ReplaceAll(marked, "|", ""), api.ErrSyntax, strings.Index(marked, "|"))
}

// inMain fails unless main with these statements has the flaw ErrSyntax at the mark, whatever stands behind the text.
func inMain(t *testing.T, marked string) {
	t.Helper()
	syntax(t, "fn main() { skip; "+marked+" }")
	syntax(t, "fn main() { if x { "+marked+" } else { } }")
	syntax(t, "fn main() { while x { } "+marked+" skip; } fn (")
}

// 20.1: flaws of layer 18 are told as they are, ahead of all that stands ahead of them.
func TestFlawsOfWords(t *testing.T) {
	flawed(t, "$", api.ErrWord, 0)
	flawed(t, "fn main() { x = $; }", api.ErrWord, 16)
	flawed(t, "fn main() { x = 2147483649; }", api.ErrWord, 16)
	flawed(t, "fn main() { x = -2147483649; }", api.ErrWord, 17)
	flawed(t, ") ) ) $", api.ErrWord, 6)
	flawed(t, "fn main() { x = ; } ä", api.ErrWord, 20)
	flawed(t, strings.Repeat("global g: int; ", api.MostDecls+1)+"!", api.ErrWord, 15*(api.MostDecls+1))
	flawed(t, strings.Repeat(" ", api.MostSource+1), api.ErrMuch, api.MostSource)
	flawed(t, ") "+strings.Repeat("$", api.MostSource), api.ErrMuch, api.MostSource)
}

// 20.1: a program of MostSource bytes is read, and its flaws are told where they stand.
func TestMostSource(t *testing.T) {
	const s = "fn main(){skip;}"
	gap := strings.Repeat(" ", api.MostSource-len(s))
	parsed(t, s+gap, api.Tree{Fns: []api.Fn{{Name: "main", At: 3, Body: []api.Stmt{{Kind: api.StmtSkip, At: 10}}}}})
	parsed(t, gap+s, api.Tree{Fns: []api.Fn{{Name: "main", At: len(gap) + 3, Body: []api.Stmt{{Kind: api.StmtSkip, At: len(gap) + 10}}}}})
	flawed(t, "fn main(){"+gap+"skip;;", api.ErrSyntax, api.MostSource-1)
	flawed(t, "fn main(){"+gap+"skip; ", api.ErrSyntax, api.MostSource)
}

// Words: ErrSyntax at the first word that begins no declaration.
func TestNoDeclaration(t *testing.T) {
	for _, s := range []string{
		"x", "1", ";", "}", "{", "(", "var", "var x: int;", "skip;", "if", "else", "int", "new", "null", "lock x;", "x = 1;", "f();", "@g = x;", "*h();", "=", "==", "-",
	} {
		syntax(t, "|"+s)
		syntax(t, "global g: int; |"+s)
		syntax(t, "fn main() { } |"+s)
	}
}

// Words: ErrSyntax at the word of a global or a field that may not stand there.
func TestFlawsOfGlobalsAndFields(t *testing.T) {
	for _, word := range []string{"global", "field"} {
		for _, s := range []string{
			" |", " |;", " |: int;", " |1: int;", " |int: int;", " |global g: int;", " |fn: int;", " |null: int;",
			" g |", " g |;", " g |int;", " g |= int;", " g |g: int;", " g |, h: int;",
			" g: |", " g: |;", " g: |x;", " g: |1;", " g: |new;", " g: |fn;", " g: |null;", " g: |global g: int;",
			" g: int |", " g: int |, h: int;", " g: int |= 1;", " g: int |global g: int;", " g: int |}", " g: int |ref;", " g: int;|;",
		} {
			syntax(t, word+s)
			syntax(t, "fn main() { } "+word+s)
		}
	}
}

// Words: ErrSyntax at the word of a function ahead of its statements that may not stand there.
func TestFlawsOfFunctions(t *testing.T) {
	for _, s := range []string{
		"|", "|() { }", "|1() { }", "|lock() { }", "|fn() { }",
		"f |", "f |{ }", "f |: int { }", "f |;", "f |x() { }",
		"f(|", "f(|{ }", "f(|, x: int) { }", "f(|1: int) { }", "f(|int) { }", "f(|int: int) { }", "f(|: int) { }",
		"f(x |", "f(x|) { }", "f(x|, y) { }", "f(x |int) { }", "f(x: |) { }", "f(x: |y) { }", "f(x: |, y: int) { }",
		"f(x: int |", "f(x: int |y: int) { }", "f(x: int|; y: int) { }", "f(x: int |{ }", "f(x: int,|) { }", "f(x: int, |", "f(x: int,|, y: int) { }", "f(x: int, |5) { }",
		"f() |", "f() |;", "f() |int { }", "f() |skip;", "f() |= { }", "f(): |", "f(): |{ }", "f(): |x { }", "f(): |new { }", "f(): int |", "f(): int |: int { }", "f(): int|; { }", "f()|() { }",
		"f() { |", "f() { var |", "f() { var |; }", "f() { var |1: int; }", "f() { var |var: int; }", "f() { var x |; }", "f() { var x |= 1; }", "f() { var x: |; }", "f() { var x: |y; }", "f() { var x: int |}", "f() { var x: int |, y: int; }", "f() { var x: int |var y: int; }", "f() { var x: int;|; }",
	} {
		syntax(t, "fn "+s)
		syntax(t, "global g: int; fn k() { } fn "+s)
	}
}

// Words: variables stand ahead of statements.
func TestVariablesStandAheadOfStatements(t *testing.T) {
	syntax(t, "fn f() { skip; |var x: int; }")
	syntax(t, "fn f() { var x: int; skip; |var y: int; }")
	syntax(t, "fn f() { if x { |var y: int; } }")
	syntax(t, "fn f() { while x { } |var y: int; }")
	syntax(t, "fn f() { if x { } else { |var y: int; } }")
}

// Words: ErrSyntax at a word that begins no statement.
func TestNoStatement(t *testing.T) {
	for _, s := range []string{
		"|;", "|1;", "|-1;", "|null;", "|new;", "|&f;", "|&f();", "|(x);", "|{ }", "|)", "|= 1;", "|== 1;", "|.f = x;", "|, x", "|: int", "|< x", "|+ x", "|- x",
		"|else { }", "|int;", "|ref x;", "|fun;", "|fn f() { }", "|global g: int;", "|field f: int;",
	} {
		inMain(t, s)
	}
}

// Words: ErrSyntax at the word of a statement without an expression or a block that may not stand there.
func TestFlawsOfStatements(t *testing.T) {
	for _, s := range []string{
		"@|;", "@|1 = x;", "@|= x;", "@|@g = x;", "@|lock = x;", "@g |;", "@g |x;", "@g |== x;", "@g|.f = x;", "@g|();", "@g = |;", "@g = |1;", "@g = |-1;", "@g = |null;", "@g = |new;", "@g = |@h;", "@g = |&f;", "@g = |*h();",
		"@g = x |x;", "@g = x |+ 1;", "@g = x|.f;", "@g = x|();", "@g = x |= y;", "@g = x |skip;",
		"x.|;", "x.|1 = y;", "x.|= y;", "x.|new = y;", "x.|.f = y;", "x.f |;", "x.f |y;", "x.f|.g = y;", "x.f|(y);", "x.f |== y;", "x.f = |;", "x.f = |1;", "x.f = |null;", "x.f = |new;", "x.f = |@g;", "x.f = y|.g;", "x.f = y |+ 1;", "x.f = y|();", "x.f = y |skip;",
		"lock |;", "lock |1;", "lock |@g;", "lock |null;", "lock |new;", "lock |(x);", "lock |lock x;", "lock x|.f;", "lock x |y;", "lock x|, y;", "lock x|();", "lock x |unlock x;",
		"unlock |;", "unlock |1;", "unlock |@g;", "unlock |skip;", "unlock x|.f;", "unlock x |y;", "unlock x |skip;",
		"return |1;", "return |-1;", "return |null;", "return |new;", "return |@g;", "return |&f;", "return |*h();", "return |return;", "return x|();", "return x|.f;", "return x |+ 1;", "return x |y;", "return x |skip;", "return |skip;",
		"skip |x;", "skip |skip;", "skip|();", "skip;|;", "skip |1;",
	} {
		inMain(t, s)
	}
	for _, s := range []string{"@g = x", "x.f = y", "lock x", "unlock x", "return", "return x", "skip"} {
		inMain(t, s+" |}")
		syntax(t, "fn f() { "+s+" |")
	}
}

// Words: ErrSyntax at the word of if, else or while that may not stand there.
func TestFlawsOfBlocks(t *testing.T) {
	for _, word := range []string{"if", "while"} {
		for _, s := range []string{
			" |{ }", " |1 { }", " |-1 { }", " |null { }", " |(x) { }", " |@g { }", " |;", " |if x { }", " x |;", " x |skip;", " x |== y { }", " x |< 1 { }", " x|.f { }", " x|() { }", " x |y { }", " x |else { }", " x |}",
			" x { |{ } }", " x { |; }", " x { |1; }", " x { |else { } }", " x { }|;", " x { } |{ }", " x { skip |}",
		} {
			inMain(t, word+s)
		}
	}
	inMain(t, "while x { } |else { }")
	inMain(t, "skip; |else { }")
	inMain(t, "if x { } skip; |else { }")
	inMain(t, "if x { } else { } |else { }")
	inMain(t, "if x { } else |;")
	inMain(t, "if x { } else |if y { }")
	inMain(t, "if x { } else |skip;")
	inMain(t, "if x { } else |x { }")
	inMain(t, "if x { } else { |else { } }")
	inMain(t, "if x { while y { } |else { } }")
}

// Words: ErrSyntax at the word of an expression that may not stand there.
func TestFlawsOfExpressions(t *testing.T) {
	for _, s := range []string{
		"|;", "|=;", "|= 1;", "|(y);", "|{", "|}", "|.f;", "|+ 1;", "|< 1;", "|== 1;", "|, y;", "|: y;", "|skip;", "|if y { }", "|int;", "|fn f() { }", "|return;", "|var y: int;",
		"1 |1;", "1 |+ 1;", "1 |- 1;", "1 |y;", "1|.f;", "1|(y);", "1 |== y;", "-|;", "-|y;", "-|-1;", "-|null;", "-1 |+ y;", "-|@g;", "-|(1);",
		"null |null;", "null|.f;", "null |+ 1;", "null |== y;", "null|();", "new |new;", "new|();", "new |y;", "new|.f;", "new |+ 1;",
		"@|;", "@|1;", "@|null;", "@|@g;", "@g |+ 1;", "@g|.f;", "@g|();", "@g |g;", "&|;", "&|1;", "&|&f;", "&|new;", "&|*h;", "&f|();", "&f |+ 1;", "&f |f;",
		"y |z;", "y |1;", "y |null;", "y |= z;", "y|, z;", "y |@g;", "y|: int;", "y.|;", "y.|1;", "y.|new;", "y.|.f;", "y.f|.g;", "y.f |+ 1;", "y.f|();", "y.f |z;",
		"y + |;", "y + |null;", "y + |new;", "y + |@g;", "y + |&f;", "y + |+ 1;", "y + |* 1;", "y + |(z);", "y + -|;", "y + -|z;", "y + -|-1;", "y + z |+ z;", "y + 1 |+ 1;", "y + z|.f;", "y + z|();", "y + 1 |1;", "y + z |1;",
		"y < |;", "y < |= z;", "y < |< z;", "y == |;", "y == |= z;", "y == |== z;", "y * |;", "y * |*h();", "y * z|();", "y - |;", "y - -|;", "y - - |-1;",
		"f(|;", "f(|1);", "f(|-1);", "f(|null);", "f(|new);", "f(|@g);", "f(|&k);", "f(|*h());", "f(|(y));", "f(|, y);", "f(y |;", "f(y |z);", "f(y|; z);", "f(y,|);", "f(y, |1);", "f(y,|, z);", "f(y |+ 1);", "f(y|.f);", "f(y|());", "f(y) |+ 1;", "f(y)|.f;", "f(y)|();", "f(y)|);", "f() |y;",
		"*|;", "*|1;", "*|*h();", "*|(y);", "*|@g();", "*|new;", "*h |;", "*h|.f;", "*h |= y;", "*h |+ 1;", "*h |y;", "*h(|;", "*h(|1);", "*h(y |z);", "*h(y,|);", "*h() |+ 1;", "*h()|();",
	} {
		inMain(t, "x = "+s)
	}
	for _, s := range []string{"1", "-1", "null", "new", "y", "@g", "y.f", "&f", "y + z", "y < 1", "y == -1", "f()", "f(y)", "*h(y, z)"} {
		inMain(t, "x = "+s+" |}")
		inMain(t, "x = "+s+" |skip;")
		syntax(t, "fn f() { x = "+s+" |")
	}
}

// Words: ErrSyntax of a call that is none at its first word; of one that is, at its word that may not stand there.
func TestFlawsOfCalls(t *testing.T) {
	for _, s := range []string{
		"|x;", "|x", "|x }", "|x + 1;", "|x - y;", "|x * y;", "|x < 1;", "|x == y;", "|x y;", "|x x = 1;", "|x 1;", "|x, y;", "|x: int;", "|x);", "|x skip;", "|x new;", "|x { }", "|x @g;", "|x &f;", "|x + ;", "|f x);",
	} {
		inMain(t, s)
		inMain(t, "spawn "+s)
	}
	for _, s := range []string{"|;", "|1;", "|-1;", "|null;", "|new;", "|@g;", "|&f;", "|&f();", "|(f());", "|spawn f();", "|skip;", "|}", "|x.f;", "|x = f();", "|x.f();", "|x = 1;", "|if x { }", "|-;", "|@;", "|&;"} {
		inMain(t, "spawn "+s)
	}
	for _, s := range []string{
		"f(|;", "f(|1);", "f(|null);", "f(f|());", "f(x |;", "f(x |y);", "f(x,|);", "f(x, |1);", "f() |}", "f() |skip;", "f() |+ 1;", "f()|.f = x;", "f() |= x;", "f()|();", "f(x)|, y;",
		"*|;", "*|1;", "*|(x);", "*h |;", "*h |= x;", "*h|.f = x;", "*h |x;", "*h(|;", "*h(|1);", "*h(x |;", "*h(x,|);", "*h() |}", "*h() |= x;",
	} {
		inMain(t, s)
		inMain(t, "spawn "+s)
	}
	syntax(t, "fn f() { |x")
	syntax(t, "fn f() { spawn |x")
	syntax(t, "fn f() { spawn |")
	syntax(t, "fn f() { f() |")
	syntax(t, "fn f() { f(x |")
	syntax(t, "fn f() { *h |")
}

// Words: where the text ends too early, its end is the word that may not stand there, behind all spaces and notes.
func TestTheEndMayNotStandThere(t *testing.T) {
	for _, gap := range []string{"", " ", "\n\n", " # x", "#\n"} {
		for _, s := range []string{"global", "global g", "global g:", "global g: int", "fn", "fn f", "fn f(", "fn f()", "fn f() {", "fn f() { skip;", "fn f() { if x { }", "fn f() { x ="} {
			syntax(t, s+gap+"|")
		}
	}
}

// Words: the first flaw is told.
func TestTheFirstFlaw(t *testing.T) {
	syntax(t, "global |; global ;")
	syntax(t, "fn f() { x = |; y = ; }")
	syntax(t, "fn f() { x = 1; y = |; } fn")
	syntax(t, "fn f() { x = |; |y; }")
	flawed(t, "fn f() { x; "+strings.Repeat("skip; ", api.MostStmts+1)+"}", api.ErrSyntax, 9)
}

// R1: no text makes Parse panic, or go on for ever; beside a flaw there is no program.
func TestAnyWords(t *testing.T) {
	r := rand.New(rand.NewSource(201))
	for range 20000 {
		var s strings.Builder
		for range r.Intn(30) {
			s.WriteString(someWords[r.Intn(len(someWords))])
			s.WriteByte(' ')
		}
		p, flaw := Parse(s.String())
		if flaw.Code != api.OK && !reflect.DeepEqual(p, api.Tree{}) || flaw.Code == api.OK && flaw.At != 0 {
			t.Fatalf("Parse(%q) = %+v, %v", s.String(), p, flaw)
		}
	}
	for _, w := range someWords {
		for _, s := range []string{"", "fn f() { ", "fn f() { x = ", "fn f(", "fn f() { f("} {
			Parse(s + strings.Repeat(w+" ", (api.MostSource-20)/(len(w)+1)))
		}
	}
}
