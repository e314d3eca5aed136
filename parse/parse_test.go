package parse

import (
	"reflect"
	"strings"
	"testing"

	"keyway/api"
	"keyway/tree"
)

// parsed fails unless a text is this program, with all its places, and has no flaw.
func parsed(t *testing.T, s string, want api.Tree) {
	t.Helper()
	got, flaw := Parse(s)
	if flaw != (api.Flaw{}) || !reflect.DeepEqual(got, want) {
		t.Fatalf("Parse(%.200q) =\n%+v, %v; want\n%+v", s, got, flaw, want)
	}
}

// main is a program of one function without arguments, which has these statements.
func main(body ...api.Stmt) api.Tree {
	return api.Tree{Fns: []api.Fn{{Name: "main", At: 3, Body: body}}}
}

const (
	head = "fn main() { " // main has no statement ahead of this place:
	from = len(head)
)

// stmt fails unless a text is this statement, which stands at from, where main's first one does; its At need not be told.
func stmt(t *testing.T, s string, want api.Stmt) {
	t.Helper()
	want.At = from
	parsed(t, head+s+" }", main(want))
	parsed(t, head+s+"}", main(want))
	parsed(t, head+s+" "+s+"}", main(want, movedStmt(want, len(s)+1)))
}

// movedStmt is a statement that stands so many bytes behind.
func movedStmt(s api.Stmt, by int) api.Stmt {
	s.At += by
	s.Body, s.Else = movedBlock(s.Body, by), movedBlock(s.Else, by)
	return s
}

func movedBlock(l []api.Stmt, by int) []api.Stmt {
	var all []api.Stmt
	for _, s := range l {
		all = append(all, movedStmt(s, by))
	}
	return all
}

// expr fails unless a text is this expression, to which a variable is set.
func expr(t *testing.T, s string, want api.Expr) {
	t.Helper()
	stmt(t, "x = "+s+";", api.Stmt{Kind: api.StmtSet, To: "x", Expr: want})
}

// Examples: the chapter's.
func TestExample(t *testing.T) {
	flawed(t, "fn main() { x = ; }", api.ErrSyntax, 16)
}

// 20.1: a text without declarations is a program without any.
func TestNoDeclarations(t *testing.T) {
	for _, s := range []string{"", " ", "\n\n", "# fn main() {", "#\n"} {
		parsed(t, s, api.Tree{})
	}
}

// 20.1: globals and fields, of each type, with the places of their names.
func TestGlobalsAndFields(t *testing.T) {
	for word, n := range map[string]int{"int": api.TypeInt, "ref": api.TypeRef, "fun": api.TypeFun} {
		parsed(t, "global g: "+word+";", api.Tree{Globals: []api.Decl{{Name: "g", Type: n, At: 7}}})
		parsed(t, "field f: "+word+";", api.Tree{Fields: []api.Decl{{Name: "f", Type: n, At: 6}}})
		parsed(t, " global\tg1\n:"+word+"# x\n;", api.Tree{Globals: []api.Decl{{Name: "g1", Type: n, At: 8}}})
	}
}

// 20.1: declarations stand in any order, and in the program by their sorts, each in its own order.
func TestOrderOfDeclarations(t *testing.T) {
	parsed(t, "fn b(){} field y:int; global q:fun; field x:ref; fn a(){} global p:int; field y:int;", api.Tree{
		Globals: []api.Decl{{Name: "q", Type: api.TypeFun, At: 29}, {Name: "p", Type: api.TypeInt, At: 65}},
		Fields:  []api.Decl{{Name: "y", Type: api.TypeInt, At: 15}, {Name: "x", Type: api.TypeRef, At: 42}, {Name: "y", Type: api.TypeInt, At: 78}},
		Fns:     []api.Fn{{Name: "b", At: 3}, {Name: "a", At: 52}},
	})
}

// 20.1: functions: arguments, a type or none, variables, statements, with the places of their names.
func TestFunctions(t *testing.T) {
	parsed(t, "fn f() { }", api.Tree{Fns: []api.Fn{{Name: "f", At: 3}}})
	parsed(t, "fn f(x: int) { }", api.Tree{Fns: []api.Fn{{Name: "f", At: 3, Params: []api.Decl{{Name: "x", Type: api.TypeInt, At: 5}}}}})
	parsed(t, "fn f(): ref { return; }", api.Tree{Fns: []api.Fn{{Name: "f", At: 3, Ret: api.TypeRef, Body: []api.Stmt{{Kind: api.StmtReturn, At: 14}}}}})
	parsed(t, "fn f(x: int, y: ref, z: fun): fun { var a: int; var b: ref; skip; }", api.Tree{Fns: []api.Fn{{
		Name: "f", At: 3, Ret: api.TypeFun,
		Params: []api.Decl{{Name: "x", Type: api.TypeInt, At: 5}, {Name: "y", Type: api.TypeRef, At: 13}, {Name: "z", Type: api.TypeFun, At: 21}},
		Vars:   []api.Decl{{Name: "a", Type: api.TypeInt, At: 40}, {Name: "b", Type: api.TypeRef, At: 52}},
		Body:   []api.Stmt{{Kind: api.StmtSkip, At: 60}},
	}}})
	for word, n := range map[string]int{"int": api.TypeInt, "ref": api.TypeRef, "fun": api.TypeFun} {
		parsed(t, "fn f(a:"+word+"):"+word+"{var v:"+word+";}", api.Tree{Fns: []api.Fn{{
			Name: "f", At: 3, Ret: n, Params: []api.Decl{{Name: "a", Type: n, At: 5}}, Vars: []api.Decl{{Name: "v", Type: n, At: 20}},
		}}})
	}
}

// 20.1: names that stand for two things, or for nothing, and types that do not fit are no flaw here.
func TestNamesAndTypesAreNotAsked(t *testing.T) {
	d := func(at int) api.Decl { return api.Decl{Name: "f", Type: api.TypeInt, At: at} }
	parsed(t, "global f:int; field f:int; fn f(f:int,f:int){var f:int;} fn f(){lock g;}", api.Tree{
		Globals: []api.Decl{d(7)}, Fields: []api.Decl{d(20)},
		Fns: []api.Fn{
			{Name: "f", At: 30, Params: []api.Decl{d(32), d(38)}, Vars: []api.Decl{d(49)}},
			{Name: "f", At: 60, Body: []api.Stmt{{Kind: api.StmtLock, At: 64, From: "g"}}},
		},
	})
}

// 20.1: each kind of statement that has no block.
func TestStatements(t *testing.T) {
	call := api.Expr{Kind: api.ExprCall, A: "f", Args: []string{"x", "y"}}
	via := api.Expr{Kind: api.ExprVia, A: "h", Args: []string{"x"}}
	stmt(t, "x = y;", api.Stmt{Kind: 1, To: "x", Expr: api.Expr{Kind: api.ExprVar, A: "y"}})
	stmt(t, "@g = x;", api.Stmt{Kind: 2, To: "g", From: "x"})
	stmt(t, "x.f = y;", api.Stmt{Kind: 3, To: "x", Field: "f", From: "y"})
	stmt(t, "lock x;", api.Stmt{Kind: 6, From: "x"})
	stmt(t, "unlock x;", api.Stmt{Kind: 7, From: "x"})
	stmt(t, "spawn f(x, y);", api.Stmt{Kind: 8, Expr: call})
	stmt(t, "spawn *h(x);", api.Stmt{Kind: 8, Expr: via})
	stmt(t, "f(x, y);", api.Stmt{Kind: 9, Expr: call})
	stmt(t, "*h(x);", api.Stmt{Kind: 9, Expr: via})
	stmt(t, "f();", api.Stmt{Kind: 9, Expr: api.Expr{Kind: api.ExprCall, A: "f"}})
	stmt(t, "*h();", api.Stmt{Kind: 9, Expr: api.Expr{Kind: api.ExprVia, A: "h"}})
	stmt(t, "spawn f();", api.Stmt{Kind: 8, Expr: api.Expr{Kind: api.ExprCall, A: "f"}})
	stmt(t, "return x;", api.Stmt{Kind: 10, From: "x"})
	stmt(t, "return;", api.Stmt{Kind: 10})
	stmt(t, "skip;", api.Stmt{Kind: 11})
}

// 20.1: if, else and while, with what stands in their blocks, or nothing.
func TestBlocks(t *testing.T) {
	skip := func(behind int) []api.Stmt { return []api.Stmt{{Kind: api.StmtSkip, At: from + behind}} }
	stmt(t, "if x { }", api.Stmt{Kind: 4, From: "x"})
	stmt(t, "if x { skip; }", api.Stmt{Kind: 4, From: "x", Body: skip(7)})
	stmt(t, "if x { } else { }", api.Stmt{Kind: 4, From: "x"})
	stmt(t, "if x { skip; } else { }", api.Stmt{Kind: 4, From: "x", Body: skip(7)})
	stmt(t, "if x { } else { skip; }", api.Stmt{Kind: 4, From: "x", Else: skip(16)})
	stmt(t, "if x { skip; } else { skip; }", api.Stmt{Kind: 4, From: "x", Body: skip(7), Else: skip(22)})
	stmt(t, "while x { }", api.Stmt{Kind: 5, From: "x"})
	stmt(t, "while x { skip; }", api.Stmt{Kind: 5, From: "x", Body: skip(10)})
	stmt(t, "while x { if y { skip; } else { while z { } } }", api.Stmt{Kind: 5, From: "x", Body: []api.Stmt{
		{Kind: 4, At: from + 10, From: "y", Body: skip(17), Else: []api.Stmt{{Kind: 5, At: from + 32, From: "z"}}},
	}})
}

// 20.1: an else belongs to the if that ended just ahead of it.
func TestElseBelongsToTheLastIf(t *testing.T) {
	parsed(t, head+"if a { if b { } } else { skip; } }", main(api.Stmt{
		Kind: 4, At: from, From: "a", Body: []api.Stmt{{Kind: 4, At: from + 7, From: "b"}}, Else: []api.Stmt{{Kind: 11, At: from + 25}},
	}))
	parsed(t, head+"if a { if b { } else { skip; } } }", main(api.Stmt{
		Kind: 4, At: from, From: "a", Body: []api.Stmt{{Kind: 4, At: from + 7, From: "b", Else: []api.Stmt{{Kind: 11, At: from + 23}}}},
	}))
}

// 20.1: each kind of expression.
func TestExpressions(t *testing.T) {
	expr(t, "7", api.Expr{Kind: 1, N: 7})
	expr(t, "null", api.Expr{Kind: 2})
	expr(t, "y", api.Expr{Kind: 3, A: "y"})
	expr(t, "x", api.Expr{Kind: 3, A: "x"})
	expr(t, "@g", api.Expr{Kind: 4, A: "g"})
	expr(t, "y.f", api.Expr{Kind: 5, A: "y", B: "f"})
	expr(t, "new", api.Expr{Kind: 6})
	expr(t, "&f", api.Expr{Kind: 7, A: "f"})
	for want, l := range map[string][]string{"()": nil, "(y)": {"y"}, "(y, z, y)": {"y", "z", "y"}} {
		expr(t, "f"+want, api.Expr{Kind: 10, A: "f", Args: l})
		expr(t, "*h"+want, api.Expr{Kind: 11, A: "h", Args: l})
	}
}

// 20.1: numbers, with a minus ahead or without one, up to the greatest ones.
func TestNumbers(t *testing.T) {
	for s, n := range map[string]int64{
		"0": 0, "1": 1, "007": 7, "2147483647": 1<<31 - 1, "2147483648": 1 << 31,
		"-0": 0, "-1": -1, "- 1": -1, "-\n1": -1, "-007": -7, "-2147483648": -1 << 31,
	} {
		expr(t, s, api.Expr{Kind: api.ExprInt, N: n})
		expr(t, "y + "+s, api.Expr{Kind: api.ExprArithN, A: "y", Op: api.OpAdd, N: n})
		expr(t, "y - "+s, api.Expr{Kind: api.ExprArithN, A: "y", Op: api.OpSub, N: n})
	}
}

// 20.1: each operation, of two variables, and of one and a number.
func TestOperations(t *testing.T) {
	for sign, op := range map[string]int{"+": 1, "-": 2, "*": 3, "<": 4, "==": 5} {
		for _, gap := range []string{"", " ", "\t", "# x\n"} {
			expr(t, "y"+gap+sign+gap+"z", api.Expr{Kind: 8, A: "y", Op: op, B: "z"})
			expr(t, "y"+gap+sign+gap+"5", api.Expr{Kind: 9, A: "y", Op: op, N: 5})
			expr(t, "y"+gap+sign+gap+"-5", api.Expr{Kind: 9, A: "y", Op: op, N: -5})
		}
	}
}

// 20.1: words need no more between them than layer 18 asks, and may have any of it.
func TestBetweenWords(t *testing.T) {
	want := func(at ...int) api.Tree {
		return api.Tree{Fns: []api.Fn{{Name: "f", At: at[0], Params: []api.Decl{{Name: "x", Type: api.TypeInt, At: at[1]}}, Body: []api.Stmt{
			{Kind: api.StmtSet, At: at[2], To: "x", Expr: api.Expr{Kind: api.ExprCall, A: "f", Args: []string{"x", "x"}}},
			{Kind: api.StmtIf, At: at[3], From: "x"},
		}}}}
	}
	parsed(t, "fn f(x:int){x=f(x,x);if x{}}", want(3, 5, 12, 21))
	parsed(t, "  fn  f  (  x  :  int  )  {  x  =  f  (  x  ,  x  )  ;  if  x  {  }  }  ", want(6, 12, 29, 56))
	parsed(t, "fn#\nf#\n(x:int){\r\n\tx=f(x,x);\n\tif x {\n\t}\n}\n# end", want(4, 8, 18, 29))
}

// 20.1: a program that layer 19 prints is the one that is read.
func TestPrinted(t *testing.T) {
	s := "global g: int;\nglobal h: fun;\nfield f: ref;\nfn main() {\n\tvar x: int;\n\tx = x + -1;\n\tif x {\n\t\tspawn main();\n\t} else {\n\t\t@g = x;\n\t}\n}\nfn k(a: ref, b: fun): int {\n\twhile a {\n\t}\n\treturn b;\n}\n"
	p, flaw := Parse(s)
	if flaw != (api.Flaw{}) || tree.Print(p) != s {
		t.Errorf("%v, %q", flaw, tree.Print(p))
	}
}

// R2, R4: what Parse answers is the caller's own, and the same each time.
func TestTheCallersOwn(t *testing.T) {
	const s = "global g: int; field f: int; fn f(a: int) { var v: int; x = f(a, b); if x { skip; } else { skip; } }"
	p, _ := Parse(s)
	q, _ := Parse(s)
	if !reflect.DeepEqual(p, q) {
		t.Fatalf("%+v, then %+v", p, q)
	}
	p.Globals[0], p.Fields[0] = api.Decl{}, api.Decl{}
	f := p.Fns[0]
	f.Params[0], f.Vars[0], f.Body[0].Expr.Args[0], f.Body[1].Body[0], f.Body[1].Else[0] = api.Decl{}, api.Decl{}, "", api.Stmt{}, api.Stmt{}
	p.Fns[0] = api.Fn{}
	parsed(t, s, q)
}

// R2: no two lists of an answer share anything.
func TestListsShareNothing(t *testing.T) {
	s := "fn f() { " + strings.Repeat("if x { f(a, b, c); skip; skip; } else { skip; skip; skip; } ", 3) + "}"
	p, _ := Parse(s)
	q, _ := Parse(s)
	for i := range p.Fns[0].Body {
		one := &p.Fns[0].Body[i]
		one.Body[0].Expr.Args = append(one.Body[0].Expr.Args[:1], "z")
		one.Body = append(one.Body[:1], api.Stmt{Kind: 99})
		one.Else = append(one.Else[:1], api.Stmt{Kind: 98})
		for j := i + 1; j < len(p.Fns[0].Body); j++ {
			if !reflect.DeepEqual(p.Fns[0].Body[j], q.Fns[0].Body[j]) {
				t.Fatalf("what was done to statement %d changed statement %d", i, j)
			}
		}
		if one.Else[0].Kind != api.StmtSkip || one.Body[0].Kind != api.StmtCall {
			t.Fatalf("lists of statement %d share something", i)
		}
	}
}
