package check

import (
	"go/ast"
	"go/parser"
	"go/token"
	"reflect"
	"strings"
	"testing"

	"keyway/api"
	"keyway/parse"
)

// program is what a text says.
func program(t *testing.T, s string) api.Tree {
	t.Helper()
	p, flaw := parse.Parse(s)
	if flaw != (api.Flaw{}) {
		t.Fatalf("%.300q is no program: %v", s, flaw)
	}
	return p
}

// fine fails unless a program has no flaw.
func fine(t *testing.T, s string) {
	t.Helper()
	if flaw := Check(program(t, s)); flaw != (api.Flaw{}) {
		t.Errorf("Check of %.300q = %v, want none", s, flaw)
	}
}

// flawed fails unless the first flaw of a program is this one, where the mark | stands in it.
func flawed(t *testing.T, marked string, code api.Errno) {
	t.Helper()
	want := api.Flaw{Code: code, At: strings.Index(marked, "|")}
	if flaw := Check(program(t, strings.ReplaceAll(marked, "|", ""))); flaw != want {
		t.Errorf("Check of %.300q = %v, want %v", marked, flaw, want)
	}
}

// before declares what statements of these tests speak of: variables i, r, h (and j, s, k), globals and fields that end with the same letters, functions of each type and of some arguments.
const before = "global gi: int; global gr: ref; global gh: fun; field fi: int; field fr: ref; field fh: fun; " +
	"fn n() { } fn ni(): int { } fn nr(): ref { } fn nh(): fun { } " +
	"fn one(a: int) { } fn two(a: ref, b: fun): int { } fn main() { } " +
	"fn f(i: int, r: ref, h: fun) { var j: int; var s: ref; var k: fun; "

// allowed fails unless these statements have no flaw, each alone and all together.
func allowed(t *testing.T, l ...string) {
	t.Helper()
	for _, s := range l {
		fine(t, before+s+" }")
		fine(t, before+"if i { "+s+" } else { while j { "+s+" } } }")
	}
	fine(t, before+strings.Join(l, " ")+" }")
}

// each fails unless each of these statements has this flaw, wherever it stands, and whatever stands behind it.
func each(t *testing.T, code api.Errno, l ...string) {
	t.Helper()
	for _, s := range l {
		flawed(t, before+"|"+s+" }", code)
		flawed(t, before+"skip; |"+s+" nix = 1; i = null; }", code)
		flawed(t, before+"if i { |"+s+" } else { nix = 1; } }", code)
		flawed(t, before+"if i { } else { |"+s+" } i = null; }", code)
		flawed(t, before+"while i { i = j; |"+s+" } nix(); }", code)
	}
}

// The chapter's example: x = null of an int x.
func TestExample(t *testing.T) {
	flawed(t, "fn main() { var x: int; |x = null; }", api.ErrType)
}

// Errors: their numbers.
func TestNumbersOfErrors(t *testing.T) {
	if api.ErrName != 183 || api.ErrType != 182 {
		t.Errorf("ErrName %d, ErrType %d", api.ErrName, api.ErrType)
	}
}

// 21.1: programs without a flaw.
func TestNoFlaw(t *testing.T) {
	fine(t, "fn main() { }")
	fine(t, "fn main() { var x: int; var y: ref; var z: fun; }")
	fine(t, "global g: int; field f: ref; fn k(a: fun): ref { } fn main() { }")
	fine(t, "fn main() { main(); spawn main(); } ")
	fine(t, "fn main() { var h: fun; h = &main; spawn *h(); return; }")
	fine(t, "fn a() { b(); } fn b() { a(); main(); } fn main() { a(); }")
	fine(t, "global l: ref; fn w(t: ref) { var x: int; lock t; x = t.n; x = x + 1; t.n = x; unlock t; } field n: int; fn main() { var t: ref; t = new; @l = t; spawn w(t); w(t); }")
}

// Words: a name stands for one thing among globals, among fields, among functions, among a function's arguments and variables.
func TestNamesTwice(t *testing.T) {
	const end = " fn main() { }"
	for _, second := range []string{"int", "ref", "fun"} {
		flawed(t, "global g: int; global |g: "+second+";"+end, api.ErrName)
		flawed(t, "global a: int; global b: int; global c: ref; global |b: "+second+"; global b: int; global a: int;"+end, api.ErrName)
		flawed(t, "field f: int; field |f: "+second+";"+end, api.ErrName)
		flawed(t, "field a: int; fn x() { } field b: int; field c: ref; field |b: "+second+"; field b: int; field a: int;"+end, api.ErrName)
		flawed(t, "fn f() { } fn |f() { }"+end, api.ErrName)
		flawed(t, "fn f() { } fn |f(a: "+second+"): int { }"+end, api.ErrName)
		flawed(t, "fn f(a: int) { } fn g() { } fn |f(): "+second+" { } fn g() { } fn f() { }"+end, api.ErrName)
		flawed(t, "fn f(a: int, |a: "+second+") { }"+end, api.ErrName)
		flawed(t, "fn f(a: int, b: ref, c: fun, |b: "+second+", b: int, a: int) { }"+end, api.ErrName)
		flawed(t, "fn f(a: int, b: int) { var |b: "+second+"; }"+end, api.ErrName)
		flawed(t, "fn f(a: int) { var b: int; var |a: "+second+"; var b: int; }"+end, api.ErrName)
		flawed(t, "fn f() { var b: int; var c: int; var |b: "+second+"; var b: int; }"+end, api.ErrName)
	}
	flawed(t, "fn main() { } fn |main() { }", api.ErrName)
}

// Words: what is of another sort may have the same name; another function's variables too.
func TestNamesOfOtherSorts(t *testing.T) {
	fine(t, "global a: int; field a: ref; fn a(a: fun) { } fn main() { var main: int; }")
	fine(t, "fn f(a: int) { var b: ref; } fn g(b: int) { var a: fun; } fn main() { var a: int; var b: int; }")
	fine(t, "global x: ref; field x: fun; fn x(x: ref): ref { var y: fun; y = x.x; x = @x; x = x(x); y = &x; x.x = y; @x = x; } fn main() { }")
	fine(t, "global x: ref; fn main() { var x: int; x = 1; if x { } }")
	flawed(t, "global x: int; fn main() { |x = 1; }", api.ErrName)
	flawed(t, "field x: int; fn main() { |x = 1; }", api.ErrName)
	flawed(t, "fn x() { } fn main() { var y: fun; |y = x; }", api.ErrName)
	flawed(t, "fn f(x: int) { var y: int; } fn main() { |x = 1; }", api.ErrName)
	flawed(t, "fn f(x: int) { var y: int; } fn main() { |y = 1; }", api.ErrName)
	flawed(t, "fn main() { var g: int; |@g = g; }", api.ErrName)
	flawed(t, "field g: int; fn g() { } fn main() { var g: int; |g = @g; }", api.ErrName)
	flawed(t, "global g: int; fn g() { } fn main() { var g: ref; |g = g.g; }", api.ErrName)
	flawed(t, "global h: fun; field h: fun; fn main() { var h: fun; |h = &h; }", api.ErrName)
	flawed(t, "global h: fun; field h: fun; fn main() { var h: fun; |h(); }", api.ErrName)
	flawed(t, "global h: fun; field h: fun; fn h() { } fn main() { |*h(); }", api.ErrName)
}

// Words: a name that stands for nothing is ErrName, at its statement.
func TestNamesOfNothing(t *testing.T) {
	each(t, api.ErrName,
		"x = 1;", "x = x;", "gi = 1;", "fi = 1;", "n = 1;", "i = x;", "i = gi;", "i = n;", "I = 1;",
		"i = @x;", "i = @i;", "i = @fi;", "r = @r;", "i = x.fi;", "i = gr.fi;", "i = r.x;", "i = r.i;", "i = r.gi;",
		"h = &x;", "h = &h;", "h = &gh;", "h = &i;",
		"i = x + j;", "i = j + x;", "i = x + 1;", "i = gi < 1;", "i = j == gi;", "i = x * x;",
		"i = x();", "i = h();", "i = two(x, h);", "i = two(r, x);", "i = *x();", "i = *two(r, h);", "i = *ni();", "i = *h(x);", "i = *h(i, r, gi);",
		"@x = i;", "@i = i;", "@fi = i;", "@gi = x;", "@gi = gi;", "x.fi = i;", "gr.fi = i;", "r.x = i;", "r.gi = i;", "r.fi = x;", "r.fi = fi;",
		"if x { }", "if gi { }", "if n { }", "while x { }", "while gi { skip; }",
		"lock x;", "lock gr;", "unlock x;", "unlock gr;",
		"x();", "i();", "gh();", "h();", "one(x);", "two(x, h);", "two(r, gh);", "*x();", "*one(i);", "*gh();", "*h(x);",
		"spawn x();", "spawn h();", "spawn one(x);", "spawn two(r, gh);", "spawn *x();", "spawn *one(i);", "spawn *h(i, x);",
		"return x;", "return gi;", "return n;",
	)
}

// typed is each type's letter among the names that before declares, and which variables have it.
var typed = []struct {
	letter    string
	variables []string
}{{"i", []string{"i", "j"}}, {"r", []string{"r", "s"}}, {"h", []string{"h", "k"}}}

// Words: what is set has the type of what it is set to, whatever sets it.
func TestTypesOfWhatIsSet(t *testing.T) {
	for _, a := range typed {
		for _, b := range typed {
			x, y := a.variables[0], b.variables[1]
			l := []string{x + " = " + y + ";", x + " = @g" + b.letter + ";", x + " = r.f" + b.letter + ";", x + " = n" + b.letter + "();", "@g" + a.letter + " = " + y + ";", "r.f" + a.letter + " = " + y + ";"}
			if a.letter == b.letter {
				allowed(t, l...)
			} else {
				each(t, api.ErrType, l...)
			}
		}
	}
	each(t, api.ErrType, "i = n();", "r = n();", "h = n();", "i = one(i);", "r = two(r, h);", "h = two(r, h);", "i = f(i, r, h);", "i = main();")
	allowed(t, "i = two(r, h);")
}

// Words: numbers and operations are ints, null and new are ref, &f is fun, *h() is of any type.
func TestTypesOfExpressions(t *testing.T) {
	of := map[string]string{"i": "0 1 -1 2147483648 j i+j j-1 i*-1 i<j i<0 j==j i==2", "r": "null new", "h": "&f &n &main &two &ni"}
	for _, a := range typed {
		for _, b := range typed {
			for _, e := range strings.Fields(of[b.letter]) {
				s := a.variables[0] + " = " + e + ";"
				if a.letter == b.letter {
					allowed(t, s)
				} else {
					each(t, api.ErrType, s)
				}
			}
		}
		allowed(t, a.variables[0]+" = *h();", a.variables[1]+" = *k(i, r, h, k);")
	}
}

// Words: x OP y is of ints.
func TestTypesOfOperations(t *testing.T) {
	for _, op := range []string{"+", "-", "*", "<", "=="} {
		allowed(t, "i = i "+op+" j;", "j = i "+op+" -1;")
		for _, x := range []string{"r", "h"} {
			each(t, api.ErrType, "i = "+x+" "+op+" j;", "i = j "+op+" "+x+";", "i = "+x+" "+op+" "+x+";", "i = "+x+" "+op+" 1;")
			each(t, api.ErrType, x+" = i "+op+" j;", x+" = i "+op+" 1;", x+" = "+x+" "+op+" "+x+";")
		}
	}
}

// Words: a field is of a ref.
func TestFieldsAreOfRefs(t *testing.T) {
	allowed(t, "i = r.fi;", "r = r.fr;", "h = s.fh;", "r.fi = i;", "r.fr = r;", "s.fh = k;")
	for _, x := range []string{"i", "h"} {
		each(t, api.ErrType, "i = "+x+".fi;", "r = "+x+".fr;", "h = "+x+".fh;", x+".fi = i;", x+".fr = r;", x+".fh = h;")
	}
}

// Words: if and while ask an int, lock and unlock a ref.
func TestTypesThatAreAsked(t *testing.T) {
	allowed(t, "if i { }", "if j { } else { }", "while i { }", "lock r;", "unlock s;", "unlock r; lock r; lock r;")
	each(t, api.ErrType, "if r { }", "if h { skip; } else { }", "while r { }", "while h { }", "lock i;", "lock h;", "unlock i;", "unlock h;")
}

// Words: a call of f has arguments of its types, as many as it has; what it is may be let go.
func TestArguments(t *testing.T) {
	for _, way := range []string{"", "spawn "} {
		allowed(t, way+"n();", way+"ni();", way+"nr();", way+"nh();", way+"one(i);", way+"one(j);", way+"two(r, h);", way+"two(s, k);", way+"f(i, r, h);", way+"f(j, r, k);", way+"main();")
		for _, s := range []string{
			"n(i);", "n(r, h);", "ni(i);", "main(i);", "one();", "one(i, i);", "one(r);", "one(h);", "two();", "two(r);", "two(h);", "two(r, h, h);", "two(h, r);", "two(r, r);", "two(h, h);", "two(i, h);", "two(r, i);", "f(i, r);", "f(i, r, h, h);", "f(r, i, h);", "f(i, h, r);", "f(i, r, j);",
		} {
			each(t, api.ErrType, way+s)
		}
	}
	each(t, api.ErrType, "i = ni(i);", "i = two();", "i = two(h, r);", "i = two(r, h, r);", "r = nr(r);", "h = nh(h);")
}

// Words: *h of a fun h takes any variables.
func TestVia(t *testing.T) {
	for _, way := range []string{"", "spawn ", "i = ", "r = ", "k = "} {
		allowed(t, way+"*h();", way+"*k();", way+"*h(i);", way+"*h(r, h);", way+"*h(i, j, r, s, h, k, h, i);")
		each(t, api.ErrType, way+"*i();", way+"*r();", way+"*i(i);", way+"*r(h, h);")
		each(t, api.ErrName, way+"*h(x);", way+"*x();", way+"*h(i, r, gh);")
	}
}

// Words: return has just its function's type.
func TestReturn(t *testing.T) {
	const end = " fn main() { }"
	types := []string{"", "int", "ref", "fun"}
	for _, is := range types {
		for _, back := range types {
			from := map[string]string{"": "", "int": " i", "ref": " r", "fun": " h"}[back]
			head, colon := "fn f(i: int, r: ref, h: fun)", ": "
			if is == "" {
				colon = ""
			}
			if is == back {
				fine(t, head+colon+is+" { return"+from+"; }"+end)
				fine(t, head+colon+is+" { if i { return"+from+"; } return"+from+"; return"+from+"; }"+end)
			} else {
				flawed(t, head+colon+is+" { |return"+from+"; }"+end, api.ErrType)
				flawed(t, head+colon+is+" { if i { } else { skip; |return"+from+"; } }"+end, api.ErrType)
			}
		}
		fine(t, "fn main() { return; } fn f()"+map[bool]string{true: "", false: ": " + is}[is == ""]+" { }")
	}
	flawed(t, "fn main() { var x: int; |return x; }", api.ErrType)
	flawed(t, "fn main() { |return x; }", api.ErrName)
	flawed(t, "fn f(): int { } fn g() { |return f; }"+end, api.ErrName)
	flawed(t, "fn f(): int { } fn g(x: int) { |return x; }"+end, api.ErrType)
}

// Words: main is there, has no arguments, and no type; 21.1: ErrName at 0, ErrType where it stands, behind all else.
func TestMain(t *testing.T) {
	none := api.Flaw{Code: api.ErrName}
	for _, s := range []string{"", "   ", "fn f() { }", "fn Main() { }", "global main: int;", "field main: fun;", "fn f(main: int) { }", "fn f() { var main: fun; }", " fn f() { } # main"} {
		if flaw := Check(program(t, s)); flaw != none {
			t.Errorf("Check of %q = %v, want %v", s, flaw, none)
		}
	}
	for _, s := range []string{"(a: int)", "(a: ref, b: fun)", "(): int", "(): ref", "(): fun", "(a: int): int"} {
		flawed(t, "fn |main"+s+" { }", api.ErrType)
		flawed(t, "global g: int; fn f() { } fn |main"+s+" { var x: int; } fn k() { }", api.ErrType)
		flawed(t, "fn main"+s+" { } fn f() { skip; |x = 1; }", api.ErrName)
		flawed(t, "fn main"+s+" { |x = 1; } fn f() { }", api.ErrName)
		flawed(t, "fn main"+s+" { } fn f() { var x: int; var |x: int; }", api.ErrName)
	}
	fine(t, "fn main() { var a: int; }")
	flawed(t, "fn f() { |x = 1; }", api.ErrName)
	flawed(t, "fn f() { var x: int; |x = null; }", api.ErrType)
	flawed(t, "fn main(a: int): int { |return; }", api.ErrType)
	flawed(t, "fn |main(a: int): int { main(a); return a; }", api.ErrType)
	flawed(t, "global g: int; global |g: int;", api.ErrName)
}

// A program that has no text, made by hand, is one without main.
func TestTheEmptyProgram(t *testing.T) {
	if flaw := Check(api.Tree{}); flaw != (api.Flaw{Code: api.ErrName}) {
		t.Errorf("Check of nothing = %v", flaw)
	}
}

// R2, R4: the program is not changed, and the answer is the same each time.
func TestTheProgramStays(t *testing.T) {
	s := before + "i = two(r, h); if i { r.fi = j; } else { while j { nix(); } } }"
	p := program(t, s)
	want := Check(p)
	for range 100 {
		if got := Check(p); got != want || got.Code != api.ErrName {
			t.Fatalf("%v, then %v", want, got)
		}
	}
	if !reflect.DeepEqual(p, program(t, s)) {
		t.Errorf("Check changed the program")
	}
}

// R1: trees that no text says are no reason to panic: a statement of another kind asks nothing, an expression of another kind has no type.
func TestOtherKinds(t *testing.T) {
	with := func(s api.Stmt) api.Tree {
		return api.Tree{Fns: []api.Fn{{Name: "main", Vars: []api.Decl{{Name: "x", Type: api.TypeInt}}, Body: []api.Stmt{s}}}}
	}
	for _, k := range []int{-1, 0, 12, 1 << 40} {
		if flaw := Check(with(api.Stmt{Kind: k, At: 5, To: "nix", From: "nix"})); flaw != (api.Flaw{}) {
			t.Errorf("Check of a statement of the kind %d = %v", k, flaw)
		}
		if flaw := Check(with(api.Stmt{Kind: api.StmtSet, At: 5, To: "x", Expr: api.Expr{Kind: k, A: "nix"}})); flaw != (api.Flaw{Code: api.ErrType, At: 5}) {
			t.Errorf("Check of an expression of the kind %d = %v", k, flaw)
		}
	}
}

// Ways: what names stand for is kept in maps, those of each of the four sorts.
func TestNamesAreKeptInMaps(t *testing.T) {
	file, err := parser.ParseFile(token.NewFileSet(), "check.go", nil, 0)
	if err != nil {
		t.Fatal(err)
	}
	maps := 0
	ast.Inspect(file, func(n ast.Node) bool {
		if f, ok := n.(*ast.Field); ok {
			if _, is := f.Type.(*ast.MapType); is && f.Names[0].Name != "names" {
				maps += len(f.Names)
			}
		}
		return true
	})
	if maps != 4 {
		t.Errorf("%d maps of names", maps)
	}
}
