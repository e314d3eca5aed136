package tree

import (
	"math"
	"math/rand"
	"strconv"
	"strings"
	"testing"

	"keyway/api"
)

// others are numbers that are of no type, operation, expression or statement.
func others() []int {
	l := []int{math.MinInt, math.MinInt32, -256, math.MaxUint8 + 1, 1<<16 + 1, math.MaxInt32, math.MaxInt}
	for n := range 20 {
		l = append(l, -1-n, 12+n)
	}
	return append(l, 1<<32+1, 1<<8+3)
}

// full is an expression that has all that one can have.
func full(kind int) api.Expr {
	return api.Expr{Kind: kind, A: "a", B: "b", Op: api.OpLess, N: 5, Args: []string{"c", "d"}}
}

// fullStmt is a statement that has all that one can have.
func fullStmt(kind int) api.Stmt {
	return api.Stmt{Kind: kind, At: 4, To: "t", Field: "f", From: "x", Expr: full(api.ExprCall), Body: []api.Stmt{lock("y")}, Else: []api.Stmt{lock("z")}}
}

// 19.1: Type and Sign tell nothing of others.
func TestTypeAndSignOfOthers(t *testing.T) {
	for _, n := range append(others(), 0, 6, 7, 8, 9, 10, 11) {
		if got := Type(n); got != "" {
			t.Errorf("Type(%d) = %q", n, got)
		}
		if got := Sign(n); got != "" {
			t.Errorf("Sign(%d) = %q", n, got)
		}
	}
	if Type(4) != "" || Type(5) != "" {
		t.Errorf("Type of 4 and 5: %q, %q", Type(4), Type(5))
	}
}

// Words: expressions of other kinds are printed as nothing, whatever they have, and wherever they stand.
func TestExprOfOtherKinds(t *testing.T) {
	for _, kind := range append(others(), 0) {
		expr(t, api.Expr{Kind: kind}, "")
		expr(t, full(kind), "")
		body(t, []api.Stmt{set("x", full(kind))}, "x = ;")
		body(t, []api.Stmt{{Kind: api.StmtSpawn, Expr: full(kind)}}, "spawn ;")
		body(t, []api.Stmt{{Kind: api.StmtCall, Expr: full(kind)}}, ";")
	}
}

// Words: statements of other kinds are printed as skip;, whatever they have.
func TestStatementsOfOtherKinds(t *testing.T) {
	for _, kind := range append(others(), 0) {
		body(t, []api.Stmt{{Kind: kind}}, "skip;")
		body(t, []api.Stmt{fullStmt(kind), lock("x"), block(api.StmtWhile, "x", fullStmt(kind))}, "skip;", "lock x;", "while x {", "\tskip;", "}")
	}
}

// 19.1: of types and operations that are none nothing is printed.
func TestPrintOfOtherTypesAndOperations(t *testing.T) {
	for _, n := range append(others(), 0) {
		printed(t, api.Tree{
			Globals: []api.Decl{{Name: "g", Type: n}}, Fields: []api.Decl{{Name: "f", Type: n}},
			Fns: []api.Fn{{Name: "main", Ret: n, Params: []api.Decl{{Name: "x", Type: n}}, Vars: []api.Decl{{Name: "y", Type: n}}}},
		}, "global g: ;", "field f: ;", "fn main(x: ) {", "\tvar y: ;", "}")
		expr(t, api.Expr{Kind: api.ExprArith, A: "x", Op: n, B: "y"}, "x  y")
		expr(t, api.Expr{Kind: api.ExprArithN, A: "x", Op: n, N: 3}, "x  3")
	}
}

// 19.1: what a kind does not have is not printed.
func TestPrintOfWhatIsNotHad(t *testing.T) {
	for kind, want := range []string{1: "5", 2: "null", 3: "a", 4: "@a", 5: "a.b", 6: "new", 7: "&a", 8: "a < b", 9: "a < 5", 10: "a(c, d)", 11: "*a(c, d)"} {
		expr(t, full(kind), want)
	}
	for kind, want := range []string{
		1: "t = a(c, d);", 2: "@t = x;", 3: "t.f = x;", 4: "if x {\n\t\tlock y;\n\t} else {\n\t\tlock z;\n\t}", 5: "while x {\n\t\tlock y;\n\t}",
		6: "lock x;", 7: "unlock x;", 8: "spawn a(c, d);", 9: "a(c, d);", 10: "return x;", 11: "skip;",
	} {
		if kind > 0 {
			body(t, []api.Stmt{fullStmt(kind)}, want)
		}
	}
}

// 19.1: what is not printed of an expression, it does not say.
func TestSameExprOfWhatIsNotHad(t *testing.T) {
	for kind := range 13 {
		e := full(kind)
		for _, change := range []func(*api.Expr){
			func(e *api.Expr) { e.A += "a" }, func(e *api.Expr) { e.B += "a" }, func(e *api.Expr) { e.Op++ }, func(e *api.Expr) { e.N++ },
			func(e *api.Expr) { e.Args = nil }, func(e *api.Expr) { e.Args = []string{"c", "e"} }, func(e *api.Expr) { e.Kind = 99 }, func(e *api.Expr) { e.Kind++ },
		} {
			changed := full(kind)
			change(&changed)
			sameExpr(t, e, changed, Expr(e) == Expr(changed))
		}
	}
}

// 19.1: what is not printed of a statement, it does not say.
func TestSameOfWhatIsNotHad(t *testing.T) {
	for kind := range 13 {
		s := fullStmt(kind)
		for _, change := range []func(*api.Stmt){
			func(s *api.Stmt) { s.To += "a" }, func(s *api.Stmt) { s.Field += "a" }, func(s *api.Stmt) { s.From += "a" }, func(s *api.Stmt) { s.From = "" },
			func(s *api.Stmt) { s.Expr.Args = nil }, func(s *api.Stmt) { s.Expr.N++ }, func(s *api.Stmt) { s.Expr.Kind = 99 }, func(s *api.Stmt) { s.Expr.Kind++ },
			func(s *api.Stmt) { s.Body = nil }, func(s *api.Stmt) { s.Else = nil }, func(s *api.Stmt) { s.Body = []api.Stmt{lock("q")} }, func(s *api.Stmt) { s.Else = []api.Stmt{lock("q")} },
			func(s *api.Stmt) { s.Kind = 99 }, func(s *api.Stmt) { s.Kind++ }, func(s *api.Stmt) { s.At++ },
		} {
			changed := fullStmt(kind)
			change(&changed)
			same(t, program(s), program(changed), Print(program(s)) == Print(program(changed)))
		}
	}
}

// 19.1: types that are none say nothing, all the same, but not what a type says.
func TestSameOfOtherTypes(t *testing.T) {
	of := func(n int) []api.Tree {
		d := []api.Decl{{Name: "x", Type: n}}
		return []api.Tree{{Globals: d}, {Fields: d}, {Fns: []api.Fn{{Ret: n}}}, {Fns: []api.Fn{{Params: d}}}, {Fns: []api.Fn{{Vars: d}}}}
	}
	for _, a := range append(others(), 0, 1, 2, 3, 4) {
		for _, b := range []int{-1, 0, 1, 2, 3, 4, 99} {
			for i, p := range of(a) {
				same(t, p, of(b)[i], Type(a) == Type(b))
			}
		}
	}
}

// R1: no name, number or kind makes a call panic, nor programs of which nothing is known to be right.
func TestAnything(t *testing.T) {
	r := rand.New(rand.NewSource(194))
	text := func() string {
		b := make([]byte, r.Intn(4))
		r.Read(b)
		return string(b)
	}
	number := func() int { return int(r.Uint64()) >> r.Intn(64) }
	var stmts func(deep int) []api.Stmt
	stmts = func(deep int) []api.Stmt {
		var l []api.Stmt
		for range r.Intn(4) {
			s := api.Stmt{Kind: r.Intn(14) - 1, At: number(), To: text(), Field: text(), From: text()}
			s.Expr = api.Expr{Kind: r.Intn(14) - 1, A: text(), B: text(), Op: number(), N: int64(number()), Args: []string{text(), text()}}
			if deep > 0 {
				s.Body, s.Else = stmts(deep-1), stmts(deep-1)
			}
			l = append(l, s)
		}
		return l
	}
	for range 2000 {
		d := []api.Decl{{Name: text(), Type: number(), At: number()}}
		p := api.Tree{Globals: d, Fields: d, Fns: []api.Fn{{Name: text(), At: number(), Params: d, Ret: number(), Vars: d, Body: stmts(3)}}}
		if !strings.HasSuffix(Print(p), "}\n") {
			t.Fatalf("Print(%+v) = %q", p, Print(p))
		}
		same(t, p, elsewhere(p), true)
		same(t, p, api.Tree{}, false)
	}
}

// 19.1: names are printed as they are, be they names or none.
func TestNamesAsTheyAre(t *testing.T) {
	for _, s := range []string{"", " ", "fn", "a b", "\x00", "\xff", "ä", "%d", "\n", `"`, strings.Repeat("n", 1000)} {
		expr(t, api.Expr{Kind: api.ExprGlobal, A: s}, "@"+s)
		expr(t, api.Expr{Kind: api.ExprCall, A: s, Args: []string{s, s}}, s+"("+s+", "+s+")")
		printed(t, api.Tree{Globals: []api.Decl{{Name: s, Type: api.TypeInt}}}, "global "+s+": int;")
	}
}

// 19.1: very many statements, and very many blocks within one another.
func TestVeryMany(t *testing.T) {
	const many = 1 << 16
	var l []api.Stmt
	want := strings.Builder{}
	want.WriteString("fn main() {\n")
	for n := range many {
		l = append(l, set("x", api.Expr{Kind: api.ExprInt, N: int64(n)}))
		want.WriteString("\tx = " + strconv.Itoa(n) + ";\n")
	}
	want.WriteString("}\n")
	if got := Print(program(l...)); got != want.String() {
		t.Errorf("of %d statements %d bytes are printed", many, len(got))
	}
	deep := lock("x")
	for range many - 1 {
		deep = block(api.StmtWhile, "x", deep)
	}
	same(t, program(deep), program(deep), true)
}
