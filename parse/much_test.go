package parse

import (
	"fmt"
	"strings"
	"testing"

	"keyway/api"
)

// read fails unless a text has no flaw.
func read(t *testing.T, s string) api.Tree {
	t.Helper()
	p, flaw := Parse(s)
	if flaw != (api.Flaw{}) {
		t.Fatalf("Parse(%.200q): %v", s, flaw)
	}
	return p
}

// much fails unless a text has the flaw ErrMuch where the mark | stands in it.
func much(t *testing.T, marked string) {
	t.Helper()
	flawed(t, strings.ReplaceAll(marked, "|", ""), api.ErrMuch, strings.Index(marked, "|"))
}

// many is so many of one text, each with its number where %d stands in it.
func many(n int, text string) string {
	var s strings.Builder
	for i := range n {
		s.WriteString(strings.ReplaceAll(text, "%d", fmt.Sprint(i)))
	}
	return s.String()
}

// sorts are declarations of which there may be MostDecls: what stands ahead of them, one, how many were read, what stands behind.
var sorts = []struct {
	ahead, one, behind string
	count              func(api.Tree) int
}{
	{"", "global g%d: int;\n", "", func(p api.Tree) int { return len(p.Globals) }},
	{"", "field f%d: ref;\n", "", func(p api.Tree) int { return len(p.Fields) }},
	{"", "fn k%d() { }\n", "", func(p api.Tree) int { return len(p.Fns) }},
	{"fn f() {\n", "var x%d: fun;\n", "skip; }", func(p api.Tree) int { return len(p.Fns[0].Vars) }},
	{"fn f(a: int, b: int) {\n", "var x%d: int;\n", "}", func(p api.Tree) int { return len(p.Fns[0].Vars) }},
}

// Words: MostDecls globals, fields, functions, variables of a function are read; at the word that begins one more it is ErrMuch.
func TestMostDecls(t *testing.T) {
	if api.MostDecls != 128 {
		t.Fatal(api.MostDecls)
	}
	for _, one := range sorts {
		for _, n := range []int{1, api.MostDecls - 1, api.MostDecls} {
			if got := one.count(read(t, one.ahead+many(n, one.one)+one.behind)); got != n {
				t.Errorf("of %d %q %d are read", n, one.one, got)
			}
		}
		full := one.ahead + many(api.MostDecls, one.one) + "|"
		much(t, full+many(1, one.one)+one.behind)
		much(t, full+many(1, one.one))
		much(t, full+many(100, one.one)+one.behind)
		word := strings.Fields(one.one)[0]
		for _, behind := range []string{"", ";", " )", " 1", " g", " fn"} {
			much(t, full+word+behind)
		}
	}
}

// Words: so many of each sort may be in one program, and so many variables in each function.
func TestMostDeclsOfEach(t *testing.T) {
	globals, fields := many(api.MostDecls, "global g%d:int;"), many(api.MostDecls, "field f%d:int;")
	vars := "var v:int;"
	fns := "fn a(){" + many(api.MostDecls, vars) + "}fn b(){" + many(api.MostDecls, vars) + "}" + many(api.MostDecls-2, "fn k(){}")
	p := read(t, globals+fields+fns)
	if len(p.Globals) != api.MostDecls || len(p.Fields) != api.MostDecls || len(p.Fns) != api.MostDecls || len(p.Fns[1].Vars) != api.MostDecls {
		t.Error(len(p.Globals), len(p.Fields), len(p.Fns))
	}
	much(t, globals+fields+fns+"|fn k(){}")
	much(t, globals+fns+fields+"|field f:int;")
	much(t, fields+fns+globals+"|global f:int;")
	much(t, globals+"fn a(){"+many(api.MostDecls, vars)+"}fn b(){"+many(api.MostDecls, vars)+"|var v:int;}")
}

// Words: variables do not count as arguments, nor arguments as variables.
func TestArgumentsAndVariablesApart(t *testing.T) {
	p := read(t, "fn f("+list(api.MostArgs, "a: int")+") { "+many(api.MostDecls, "var v%d: int; ")+"}")
	if len(p.Fns[0].Params) != api.MostArgs || len(p.Fns[0].Vars) != api.MostDecls {
		t.Error(len(p.Fns[0].Params), len(p.Fns[0].Vars))
	}
}

// list is so many of one text, with commas between.
func list(n int, text string) string {
	return strings.Join(strings.Split(strings.Repeat(text+"\n", n), "\n")[:n], ", ")
}

// Words: MostArgs arguments are read, of functions and of calls; at the name of one more it is ErrMuch.
func TestMostArgs(t *testing.T) {
	if api.MostArgs != 8 {
		t.Fatal(api.MostArgs)
	}
	for _, one := range []struct {
		ahead, one, behind string
		count              func(api.Tree) int
	}{
		{"fn f(", "a: int", "): int { }", func(p api.Tree) int { return len(p.Fns[0].Params) }},
		{"fn f() { k(", "x", "); }", func(p api.Tree) int { return len(p.Fns[0].Body[0].Expr.Args) }},
		{"fn f() { *h(", "x", "); }", func(p api.Tree) int { return len(p.Fns[0].Body[0].Expr.Args) }},
		{"fn f() { spawn k(", "x", "); }", func(p api.Tree) int { return len(p.Fns[0].Body[0].Expr.Args) }},
		{"fn f() { spawn *h(", "x", "); }", func(p api.Tree) int { return len(p.Fns[0].Body[0].Expr.Args) }},
		{"fn f() { x = k(", "x", "); }", func(p api.Tree) int { return len(p.Fns[0].Body[0].Expr.Args) }},
		{"fn f() { x = *h(", "x", "); }", func(p api.Tree) int { return len(p.Fns[0].Body[0].Expr.Args) }},
	} {
		for n := range api.MostArgs + 1 {
			if got := one.count(read(t, one.ahead+list(n, one.one)+one.behind)); got != n {
				t.Errorf("of %d arguments of %q %d are read", n, one.ahead, got)
			}
		}
		full := one.ahead + list(api.MostArgs, one.one)
		much(t, full+", |"+one.one+one.behind)
		much(t, full+", |"+one.one+", "+list(50, one.one)+one.behind)
		for _, behind := range []string{"", " ;", " 1", " }", " fn"} {
			much(t, full+", |x"+behind)
		}
		for _, s := range []string{", |", ", |1", ", |)", ",|,", ", |null", ", |&k", " |x", "|;", "|(", " |1"} {
			syntax(t, full+s+one.behind)
		}
	}
}

// Words: arguments are counted in each list anew.
func TestMostArgsOfEach(t *testing.T) {
	const x = "x, x, x, x, x, x, x, x"
	read(t, "fn f(a:int,b:int,c:int,d:int,e:int,f:int,g:int,h:int) { f("+x+"); x = f("+x+"); spawn *h("+x+"); } fn g(a:int) { *h("+x+"); }")
	much(t, "fn f(a: int) { f("+x+"); x = f("+x+", |x); }")
}

// all counts statements, those within blocks as well.
func all(l []api.Stmt) int {
	n := len(l)
	for _, s := range l {
		n += all(s.Body) + all(s.Else)
	}
	return n
}

// statements are of each kind, with one statement each: what stands within them is nothing.
var statements = []string{"x = 1;", "x=f(y);", "@g = x;", "x.f = y;", "if x { }", "if x { } else { }", "while x { }", "lock x;", "unlock x;", "spawn f();", "spawn *h();", "f();", "*h();", "return;", "return x;", "skip;"}

// Words: MostStmts statements are read; at the first word of one more it is ErrMuch, of whichever kind.
func TestMostStmts(t *testing.T) {
	if api.MostStmts != 2048 {
		t.Fatal(api.MostStmts)
	}
	full := "fn f() { " + strings.Repeat("skip; ", api.MostStmts)
	for _, s := range statements {
		text := "fn f() { " + strings.Repeat("skip; ", api.MostStmts-1) + s + " }"
		if got := all(read(t, text).Fns[0].Body); got != api.MostStmts {
			t.Errorf("%d statements are read", got)
		}
		much(t, full+"|"+s+" }")
		much(t, full+"|"+s)
		if len(s) < 12 {
			text := strings.Repeat(s+" ", api.MostStmts)
			read(t, "fn f() { "+text+"}")
			much(t, "fn f() { "+text+"|"+s+" }")
		}
	}
	for _, s := range []string{"|skip", "|lock ;", "|@", "|if", "|while 1", "|return 1;", "|spawn x;", "|x = ;", "|x.", "|f(", "|f(1)", "|*", "|* 1", "|if x { skip; } else if"} {
		much(t, full+s)
	}
}

// Words: what is no statement is not too much of them, but ErrSyntax, as this is named first.
func TestMostStmtsAndSyntax(t *testing.T) {
	full := "fn f() { " + strings.Repeat("skip; ", api.MostStmts)
	read(t, full+"}")
	read(t, full+"} fn g() { }")
	for _, s := range []string{"|", "|;", "|1", "|var x: int;", "|x;", "|x", "|else { }", "|{ }", "|fn", "} |}", "} |skip;", "} |x", "|new;"} {
		syntax(t, full+s)
	}
}

// Words: statements are counted in all functions and blocks together, in their order, an if ahead of what it has.
func TestMostStmtsOfAProgram(t *testing.T) {
	half := strings.Repeat("skip; ", api.MostStmts/2)
	text := "fn f() { " + half + "} fn g() { " + half
	read(t, text+"}")
	much(t, text+"|skip; }")
	much(t, text+"} fn h() { |skip; }")
	less := "fn f() { " + strings.Repeat("skip; ", api.MostStmts-2)
	read(t, less+"if x { skip; } }")
	read(t, less+"if x { } else { skip; } }")
	read(t, less+"while x { if y { } } }")
	much(t, less+"if x { skip; } |skip; }")
	much(t, less+"if x { skip; |skip; } }")
	much(t, less+"if x { skip; } else { |skip; } }")
	much(t, less+"if x { } else { skip; |skip; } }")
	much(t, less+"while x { while y { |skip; } } }")
	much(t, less+"while x { if y { } } |if x { } }")
}

// within is main with so many blocks within one another, its own among them; the text of main ends in the midst of the last one.
func within(n int, block string) string { return "fn main() { " + strings.Repeat(block, n-1) }

// deep is how many blocks stand within one another, at most, the one of these statements among them.
func deep(l []api.Stmt) int {
	n := 0
	for _, s := range l {
		if s.Kind == api.StmtIf || s.Kind == api.StmtWhile {
			n = max(n, deep(s.Body), deep(s.Else))
		}
	}
	return n + 1
}

// Words: MostDeep blocks within one another are read, a function's own the first of them; at the bracket that begins one more it is ErrMuch.
func TestMostDeep(t *testing.T) {
	if api.MostDeep != 64 {
		t.Fatal(api.MostDeep)
	}
	for _, block := range []string{"if x { ", "while x { ", "skip; while x { ", "if x { } else { ", "if x { skip; } else { ", "if x { } while x { } if x { "} {
		for _, n := range []int{1, 2, api.MostDeep - 1, api.MostDeep} {
			p := read(t, within(n, block)+"skip; "+strings.Repeat("} ", n))
			if got := deep(p.Fns[0].Body); got != n {
				t.Errorf("of %d blocks within one another %d are read", n, got)
			}
		}
		full := within(api.MostDeep, block)
		for _, behind := range []string{"", " }", " skip; }", " if x {", " ;"} {
			much(t, full+"if x |{"+behind)
			much(t, full+"while x |{"+behind)
			much(t, full+"skip; lock x; if x |{"+behind)
		}
		for _, s := range []string{"if |{", "if x |", "if x |skip;", "while x |;", "while |1 {", "skip; |{", "|else {"} {
			syntax(t, full+s)
		}
	}
}

// Words: blocks count while they are open: those behind one another are not within one another.
func TestMostDeepOfEach(t *testing.T) {
	down, up := strings.Repeat("while x { ", api.MostDeep-1), strings.Repeat("} ", api.MostDeep-1)
	p := read(t, "fn f() { "+down+up+down+up+"} fn g() { "+down+up+"} fn h() { "+strings.Repeat("if x { } else { } ", 200)+"}")
	if len(p.Fns) != 3 || len(p.Fns[0].Body) != 2 || len(p.Fns[2].Body) != 200 {
		t.Errorf("%+v", p)
	}
	much(t, "fn f() { "+down+up+down+"if x |{ } "+up+"}")
	much(t, "fn f() { } fn g() { "+down+"while x |{ } "+up+"}")
	last := strings.TrimSuffix(down, "while x { ")
	read(t, "fn f() { "+last+"if x { } else { skip; } "+up)
	much(t, "fn f() { "+last+"if x { } else { skip; if y |{ } } "+up)
	much(t, "fn f() { "+last+"if x { } else { } while x { if y |{ } } "+up)
}

// Words: of too much and a word that may not stand where it does, the first one is told.
func TestTheFirstOfBoth(t *testing.T) {
	globals := many(api.MostDecls, "global g%d: int; ")
	flawed(t, globals+"fn f() { x = ; } global g: int;", api.ErrSyntax, len(globals)+13)
	flawed(t, globals+"global ; fn f() { x = ; }", api.ErrMuch, len(globals))
	args := "fn f() { f(" + list(api.MostArgs, "x") + ", "
	flawed(t, args+"x; y = ; }", api.ErrMuch, len(args))
	flawed(t, args+"; y, z); }", api.ErrSyntax, len(args))
}
