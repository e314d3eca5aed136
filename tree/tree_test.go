package tree

import (
	"go/ast"
	"go/parser"
	"go/token"
	"math"
	"math/rand"
	"strconv"
	"strings"
	"testing"

	"keyway/api"
)

// expr fails unless an expression is told so.
func expr(t *testing.T, e api.Expr, want string) {
	t.Helper()
	if got := Expr(e); got != want {
		t.Errorf("Expr(%+v) = %q, want %q", e, got, want)
	}
}

// printed fails unless a program is printed as these lines.
func printed(t *testing.T, p api.Tree, lines ...string) {
	t.Helper()
	want := ""
	for _, line := range lines {
		want += line + "\n"
	}
	if got := Print(p); got != want {
		t.Errorf("Print(%+v) = %q, want %q", p, got, want)
	}
}

// program is one of one function, which has these statements.
func program(body ...api.Stmt) api.Tree { return api.Tree{Fns: []api.Fn{{Name: "main", Body: body}}} }

// body fails unless statements are printed as these lines, which stand in a function.
func body(t *testing.T, l []api.Stmt, lines ...string) {
	t.Helper()
	all := []string{"fn main() {"}
	for _, line := range lines {
		all = append(all, "\t"+line)
	}
	printed(t, program(l...), append(all, "}")...)
}

func lock(x string) api.Stmt { return api.Stmt{Kind: api.StmtLock, From: x} }

func set(x string, e api.Expr) api.Stmt { return api.Stmt{Kind: api.StmtSet, To: x, Expr: e} }

func block(kind int, x string, inside ...api.Stmt) api.Stmt {
	return api.Stmt{Kind: kind, From: x, Body: inside}
}

// 19.1: the words of types, by the chapter's numbers.
func TestType(t *testing.T) {
	for n, want := range []string{0: "", 1: "int", 2: "ref", 3: "fun"} {
		if got := Type(n); got != want {
			t.Errorf("Type(%d) = %q, want %q", n, got, want)
		}
	}
}

// 19.1: the signs of operations, by the chapter's numbers.
func TestSign(t *testing.T) {
	for n, want := range []string{0: "", 1: "+", 2: "-", 3: "*", 4: "<", 5: "=="} {
		if got := Sign(n); got != want {
			t.Errorf("Sign(%d) = %q, want %q", n, got, want)
		}
	}
}

// 19.1: a number with its sign, at the edges of numbers, too.
func TestDigits(t *testing.T) {
	for n, want := range map[int64]string{
		0: "0", 1: "1", 9: "9", 10: "10", 11: "11", 99: "99", 100: "100", 101: "101", 1234567890: "1234567890",
		-1: "-1", -9: "-9", -10: "-10", -99: "-99", -100: "-100", 1 << 31: "2147483648", -1 << 31: "-2147483648",
		math.MaxInt64: "9223372036854775807", math.MinInt64 + 1: "-9223372036854775807", math.MinInt64: "-9223372036854775808",
	} {
		if got := Digits(n); got != want {
			t.Errorf("Digits(%d) = %q", n, got)
		}
	}
}

// 19.1: numbers of each length, and numbers by chance, as the library tells them.
func TestDigitsOfMany(t *testing.T) {
	r := rand.New(rand.NewSource(19))
	var all []int64
	for n := range int64(2000) {
		all = append(all, n, -n)
	}
	for ten := int64(10); ten < math.MaxInt64/10; ten *= 10 {
		all = append(all, ten-1, ten, ten+1, -ten-1, -ten, -ten+1)
	}
	for range 20000 {
		n := int64(r.Uint64()) >> r.Intn(64)
		all = append(all, n, -n)
	}
	for _, n := range all {
		if got := Digits(n); got != strconv.FormatInt(n, 10) {
			t.Fatalf("Digits(%d) = %q", n, got)
		}
	}
}

// Ways: digits are made in an array.
func TestDigitsAreMadeInAnArray(t *testing.T) {
	file, err := parser.ParseFile(token.NewFileSet(), "tree.go", nil, 0)
	if err != nil {
		t.Fatal(err)
	}
	arrays := 0
	for _, d := range file.Decls {
		if f, ok := d.(*ast.FuncDecl); ok && f.Name.Name == "Digits" {
			ast.Inspect(f.Body, func(n ast.Node) bool {
				if a, ok := n.(*ast.ArrayType); ok && a.Len != nil {
					arrays++
				}
				return true
			})
		}
	}
	if arrays == 0 {
		t.Error("there is no array in Digits")
	}
}

// 19.1: each kind of expression, by the chapter's numbers, as its Words show it.
func TestExpr(t *testing.T) {
	expr(t, api.Expr{Kind: 1, N: 7}, "7")
	expr(t, api.Expr{Kind: 1}, "0")
	expr(t, api.Expr{Kind: 1, N: -7}, "-7")
	expr(t, api.Expr{Kind: 1, N: math.MinInt64}, "-9223372036854775808")
	expr(t, api.Expr{Kind: 2}, "null")
	expr(t, api.Expr{Kind: 3, A: "x"}, "x")
	expr(t, api.Expr{Kind: 4, A: "g"}, "@g")
	expr(t, api.Expr{Kind: 5, A: "x", B: "f"}, "x.f")
	expr(t, api.Expr{Kind: 6}, "new")
	expr(t, api.Expr{Kind: 7, A: "f"}, "&f")
	expr(t, api.Expr{Kind: 8, A: "x", Op: api.OpAdd, B: "y"}, "x + y")
	expr(t, api.Expr{Kind: 9, A: "x", Op: api.OpAdd, N: 3}, "x + 3")
	expr(t, api.Expr{Kind: 10, A: "f", Args: []string{"x"}}, "f(x)")
	expr(t, api.Expr{Kind: 11, A: "h", Args: []string{"x"}}, "*h(x)")
}

// 19.1: an operation has a space on each side, be it of two variables, or of one and a number.
func TestOperations(t *testing.T) {
	for op, sign := range []string{1: "+", 2: "-", 3: "*", 4: "<", 5: "=="} {
		if op == 0 {
			continue
		}
		expr(t, api.Expr{Kind: api.ExprArith, A: "a1", Op: op, B: "b"}, "a1 "+sign+" b")
		expr(t, api.Expr{Kind: api.ExprArithN, A: "a1", Op: op, N: 0}, "a1 "+sign+" 0")
		expr(t, api.Expr{Kind: api.ExprArithN, A: "a1", Op: op, N: -12}, "a1 "+sign+" -12")
		expr(t, api.Expr{Kind: api.ExprArithN, A: "a1", Op: op, N: 1 << 31}, "a1 "+sign+" 2147483648")
	}
}

// 19.1: in a call a comma and a space stand between arguments, and nowhere else.
func TestCalls(t *testing.T) {
	for want, args := range map[string][]string{
		"()":           nil,
		"(x)":          {"x"},
		"(x, y)":       {"x", "y"},
		"(y, x, y, z)": {"y", "x", "y", "z"},
	} {
		expr(t, api.Expr{Kind: api.ExprCall, A: "f", Args: args}, "f"+want)
		expr(t, api.Expr{Kind: api.ExprVia, A: "f", Args: args}, "*f"+want)
	}
	expr(t, api.Expr{Kind: api.ExprCall, A: "f", Args: []string{}}, "f()")
}

// 19.1: each kind of statement, by the chapter's numbers, as its Words show it.
func TestStatements(t *testing.T) {
	call := api.Expr{Kind: api.ExprCall, A: "f", Args: []string{"x", "y"}}
	via := api.Expr{Kind: api.ExprVia, A: "h", Args: []string{"x"}}
	for _, one := range []struct {
		s    api.Stmt
		want string
	}{
		{api.Stmt{Kind: 1, To: "x", Expr: api.Expr{Kind: api.ExprNull}}, "x = null;"},
		{api.Stmt{Kind: 2, To: "g", From: "x"}, "@g = x;"},
		{api.Stmt{Kind: 3, To: "x", Field: "f", From: "y"}, "x.f = y;"},
		{api.Stmt{Kind: 6, From: "x"}, "lock x;"},
		{api.Stmt{Kind: 7, From: "x"}, "unlock x;"},
		{api.Stmt{Kind: 8, Expr: call}, "spawn f(x, y);"},
		{api.Stmt{Kind: 8, Expr: via}, "spawn *h(x);"},
		{api.Stmt{Kind: 9, Expr: call}, "f(x, y);"},
		{api.Stmt{Kind: 9, Expr: via}, "*h(x);"},
		{api.Stmt{Kind: 10, From: "x"}, "return x;"},
		{api.Stmt{Kind: 10}, "return;"},
		{api.Stmt{Kind: 11}, "skip;"},
	} {
		body(t, []api.Stmt{one.s}, one.want)
	}
	body(t, []api.Stmt{{Kind: 4, From: "x", Body: []api.Stmt{{Kind: 11}}, Else: []api.Stmt{{Kind: 10}}}},
		"if x {", "\tskip;", "} else {", "\treturn;", "}")
	body(t, []api.Stmt{{Kind: 5, From: "x", Body: []api.Stmt{{Kind: 11}}}}, "while x {", "\tskip;", "}")
}

// 19.1: what is set may be each kind of expression.
func TestSet(t *testing.T) {
	for _, e := range someExprs() {
		body(t, []api.Stmt{set("v1", e)}, "v1 = "+Expr(e)+";")
	}
}

// 19.1: the chapter's example.
func TestExample(t *testing.T) {
	body(t, []api.Stmt{set("x", api.Expr{Kind: api.ExprArithN, A: "x", Op: api.OpAdd, N: 1})}, "x = x + 1;")
	body(t, []api.Stmt{set("x", api.Expr{Kind: api.ExprArithN, A: "y", Op: api.OpAdd, N: 1})}, "x = y + 1;")
}

// 19.1: statements stand in their order, a line each.
func TestOrderOfStatements(t *testing.T) {
	body(t, nil)
	body(t, []api.Stmt{lock("b"), lock("a"), {Kind: api.StmtSkip}, lock("a")}, "lock b;", "lock a;", "skip;", "lock a;")
}

// 19.1: there is an else only if it has statements.
func TestElse(t *testing.T) {
	body(t, []api.Stmt{block(api.StmtIf, "x")}, "if x {", "}")
	body(t, []api.Stmt{{Kind: api.StmtIf, From: "x", Body: []api.Stmt{}, Else: []api.Stmt{}}}, "if x {", "}")
	body(t, []api.Stmt{block(api.StmtIf, "x", lock("y"))}, "if x {", "\tlock y;", "}")
	body(t, []api.Stmt{{Kind: api.StmtIf, From: "x", Else: []api.Stmt{lock("y")}}}, "if x {", "} else {", "\tlock y;", "}")
	body(t, []api.Stmt{{Kind: api.StmtIf, From: "x", Body: []api.Stmt{lock("y"), lock("z")}, Else: []api.Stmt{lock("z"), lock("y")}}, lock("x")},
		"if x {", "\tlock y;", "\tlock z;", "} else {", "\tlock z;", "\tlock y;", "}", "lock x;")
	body(t, []api.Stmt{block(api.StmtWhile, "x")}, "while x {", "}")
}

// 19.1: each block is a tab more, also in else.
func TestBlocks(t *testing.T) {
	inner := api.Stmt{Kind: api.StmtIf, From: "c", Body: []api.Stmt{lock("d")}, Else: []api.Stmt{block(api.StmtWhile, "e", lock("f")), lock("g")}}
	body(t, []api.Stmt{
		block(api.StmtWhile, "a", block(api.StmtWhile, "b", inner), lock("h")),
		{Kind: api.StmtIf, From: "i", Else: []api.Stmt{inner}},
	},
		"while a {", "\twhile b {", "\t\tif c {", "\t\t\tlock d;", "\t\t} else {", "\t\t\twhile e {", "\t\t\t\tlock f;", "\t\t\t}", "\t\t\tlock g;", "\t\t}", "\t}", "\tlock h;", "}",
		"if i {", "} else {", "\tif c {", "\t\tlock d;", "\t} else {", "\t\twhile e {", "\t\t\tlock f;", "\t\t}", "\t\tlock g;", "\t}", "}")
}

// 19.1: blocks may stand within one another oftener than a text's may.
func TestDeepBlocks(t *testing.T) {
	const deep = 4 * api.MostDeep
	s := lock("x")
	lines := []string{strings.Repeat("\t", deep) + "lock x;"}
	for i := deep - 1; i >= 0; i-- {
		s = block(api.StmtIf, "x", s)
		lines = append([]string{strings.Repeat("\t", i) + "if x {"}, append(lines, strings.Repeat("\t", i)+"}")...)
	}
	body(t, []api.Stmt{s}, lines...)
}

// 19.1: globals, fields and functions, in this order, each as it is declared, a line each.
func TestPrint(t *testing.T) {
	printed(t, api.Tree{})
	printed(t, api.Tree{Globals: []api.Decl{}, Fields: []api.Decl{}, Fns: []api.Fn{}})
	printed(t, program(), "fn main() {", "}")
	printed(t, api.Tree{Globals: []api.Decl{{Name: "g", Type: api.TypeInt}}}, "global g: int;")
	printed(t, api.Tree{Fields: []api.Decl{{Name: "f", Type: api.TypeRef}}}, "field f: ref;")
	printed(t, api.Tree{
		Fns: []api.Fn{
			{Name: "work", Params: []api.Decl{{Name: "a", Type: api.TypeRef}}, Ret: api.TypeFun, Vars: []api.Decl{{Name: "v", Type: api.TypeFun}}, Body: []api.Stmt{{Kind: api.StmtReturn, From: "v"}}},
			{Name: "main", Vars: []api.Decl{{Name: "b", Type: api.TypeRef}, {Name: "a", Type: api.TypeInt}}, Body: []api.Stmt{lock("b")}},
		},
		Fields:  []api.Decl{{Name: "f2", Type: api.TypeFun}, {Name: "f1", Type: api.TypeInt}},
		Globals: []api.Decl{{Name: "h", Type: api.TypeRef}, {Name: "g", Type: api.TypeInt}},
	},
		"global h: ref;", "global g: int;",
		"field f2: fun;", "field f1: int;",
		"fn work(a: ref): fun {", "\tvar v: fun;", "\treturn v;", "}",
		"fn main() {", "\tvar b: ref;", "\tvar a: int;", "\tlock b;", "}")
}

// 19.1: the type behind the brackets lacks where there is none; arguments stand as in a call, with types.
func TestHeads(t *testing.T) {
	for ret, behind := range []string{0: "", 1: ": int", 2: ": ref", 3: ": fun"} {
		for _, one := range []struct {
			params []api.Decl
			want   string
		}{
			{nil, ""},
			{[]api.Decl{{Name: "x", Type: api.TypeInt}}, "x: int"},
			{[]api.Decl{{Name: "y", Type: api.TypeRef}, {Name: "x", Type: api.TypeFun}}, "y: ref, x: fun"},
			{[]api.Decl{{Name: "c", Type: api.TypeInt}, {Name: "b", Type: api.TypeInt}, {Name: "a", Type: api.TypeInt}}, "c: int, b: int, a: int"},
		} {
			printed(t, api.Tree{Fns: []api.Fn{{Name: "f_1", Params: one.params, Ret: ret}}}, "fn f_1("+one.want+")"+behind+" {", "}")
		}
	}
}

// 19.1: where something stands is not printed.
func TestPlacesAreNotPrinted(t *testing.T) {
	r := rand.New(rand.NewSource(190))
	for range 200 {
		p := someTree(r)
		if moved := elsewhere(p); Print(moved) != Print(p) {
			t.Fatalf("Print of\n%sstanding elsewhere:\n%s", Print(p), Print(moved))
		}
	}
}

// R2, R4: what is handed in is not changed, and the same is answered each time.
func TestNothingIsChanged(t *testing.T) {
	r := rand.New(rand.NewSource(191))
	for range 200 {
		p := someTree(r)
		before := copied(p)
		first := Print(p)
		Same(p, p)
		if !equal(p, before) {
			t.Fatalf("%+v became %+v", before, p)
		}
		if again := Print(p); again != first {
			t.Fatalf("Print is %q, then %q", first, again)
		}
	}
}
