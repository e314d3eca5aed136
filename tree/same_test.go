package tree

import (
	"math/rand"
	"reflect"
	"slices"
	"testing"

	"keyway/api"
)

// someExprs are expressions that say unlike things, some of each kind; each has only what its kind has.
func someExprs() []api.Expr {
	all := []api.Expr{
		{Kind: api.ExprInt}, {Kind: api.ExprInt, N: 1}, {Kind: api.ExprInt, N: -1},
		{Kind: api.ExprNull}, {Kind: api.ExprNew},
		{Kind: api.ExprVar, A: "x"}, {Kind: api.ExprVar, A: "y"},
		{Kind: api.ExprGlobal, A: "x"}, {Kind: api.ExprGlobal, A: "y"},
		{Kind: api.ExprField, A: "x", B: "y"}, {Kind: api.ExprField, A: "y", B: "x"}, {Kind: api.ExprField, A: "x", B: "x"},
		{Kind: api.ExprFun, A: "x"}, {Kind: api.ExprFun, A: "y"},
	}
	for op := api.OpAdd; op <= api.OpSame; op++ {
		all = append(all,
			api.Expr{Kind: api.ExprArith, A: "x", Op: op, B: "y"}, api.Expr{Kind: api.ExprArith, A: "y", Op: op, B: "x"}, api.Expr{Kind: api.ExprArith, A: "x", Op: op, B: "x"},
			api.Expr{Kind: api.ExprArithN, A: "x", Op: op}, api.Expr{Kind: api.ExprArithN, A: "y", Op: op}, api.Expr{Kind: api.ExprArithN, A: "x", Op: op, N: -1})
	}
	for _, args := range [][]string{nil, {"x"}, {"y"}, {"x", "x"}, {"x", "y"}, {"y", "x"}, {"x", "y", "x"}} {
		for _, name := range []string{"x", "y"} {
			all = append(all, api.Expr{Kind: api.ExprCall, A: name, Args: args}, api.Expr{Kind: api.ExprVia, A: name, Args: args})
		}
	}
	return all
}

// someStmts are statements that say unlike things, some of each kind; each has only what its kind has.
func someStmts() []api.Stmt {
	all := []api.Stmt{{Kind: api.StmtSkip}, {Kind: api.StmtReturn}}
	for _, x := range []string{"x", "y"} {
		for _, kind := range []int{api.StmtLock, api.StmtUnlock, api.StmtReturn} {
			all = append(all, api.Stmt{Kind: kind, From: x})
		}
		for _, y := range []string{"x", "y"} {
			all = append(all, api.Stmt{Kind: api.StmtGlobal, To: x, From: y})
			for _, f := range []string{"x", "y"} {
				all = append(all, api.Stmt{Kind: api.StmtField, To: x, Field: f, From: y})
			}
		}
		for _, inside := range [][]api.Stmt{nil, {lock("x")}, {lock("y")}, {lock("x"), lock("y")}, {lock("y"), lock("x")}, {block(api.StmtIf, "x")}} {
			all = append(all, block(api.StmtWhile, x, inside...), block(api.StmtIf, x, inside...))
			if len(inside) > 0 {
				all = append(all, api.Stmt{Kind: api.StmtIf, From: x, Else: inside}, api.Stmt{Kind: api.StmtIf, From: x, Body: []api.Stmt{lock("x")}, Else: inside})
			}
		}
	}
	for _, e := range someExprs() {
		all = append(all, set("x", e), set("y", e))
		if e.Kind == api.ExprCall || e.Kind == api.ExprVia {
			all = append(all, api.Stmt{Kind: api.StmtSpawn, Expr: e}, api.Stmt{Kind: api.StmtCall, Expr: e})
		}
	}
	return all
}

// someDecls is names and types by chance, by another name each.
func someDecls(r *rand.Rand) []api.Decl {
	var l []api.Decl
	for i := range r.Intn(4) {
		l = append(l, api.Decl{Name: "n" + Digits(int64(i)), Type: 1 + r.Intn(3), At: r.Intn(100)})
	}
	return l
}

// someBlock is statements by chance, some of those that are handed in, with at most so many blocks more within one another.
func someBlock(r *rand.Rand, from []api.Stmt, deep int) []api.Stmt {
	var l []api.Stmt
	for range r.Intn(4) {
		s := from[r.Intn(len(from))]
		s.At = r.Intn(100)
		if (s.Kind == api.StmtIf || s.Kind == api.StmtWhile) && deep > 0 {
			s.Body = someBlock(r, from, deep-1)
			if s.Kind == api.StmtIf {
				s.Else = someBlock(r, from, deep-1)
			}
		}
		l = append(l, s)
	}
	return l
}

// someTree is a program by chance.
func someTree(r *rand.Rand) api.Tree {
	p := api.Tree{Globals: someDecls(r), Fields: someDecls(r)}
	from := someStmts()
	for i := range r.Intn(4) {
		p.Fns = append(p.Fns, api.Fn{Name: "f" + Digits(int64(i)), At: r.Intn(100), Params: someDecls(r), Ret: r.Intn(4), Vars: someDecls(r), Body: someBlock(r, from, 3)})
	}
	return p
}

func copiedBlock(l []api.Stmt) []api.Stmt {
	l = slices.Clone(l)
	for i := range l {
		l[i].Expr.Args = slices.Clone(l[i].Expr.Args)
		l[i].Body = copiedBlock(l[i].Body)
		l[i].Else = copiedBlock(l[i].Else)
	}
	return l
}

// copied is a program that shares nothing with the one it says.
func copied(p api.Tree) api.Tree {
	p = api.Tree{Globals: slices.Clone(p.Globals), Fields: slices.Clone(p.Fields), Fns: slices.Clone(p.Fns)}
	for i, f := range p.Fns {
		p.Fns[i].Params = slices.Clone(f.Params)
		p.Fns[i].Vars = slices.Clone(f.Vars)
		p.Fns[i].Body = copiedBlock(f.Body)
	}
	return p
}

// equal tells whether programs are the same in all that they have.
func equal(a, b api.Tree) bool { return reflect.DeepEqual(a, b) }

func moveDecls(l []api.Decl) {
	for i := range l {
		l[i].At += 7 + i
	}
}

func moveBlock(l []api.Stmt) {
	for i := range l {
		l[i].At += 9 + i
		moveBlock(l[i].Body)
		moveBlock(l[i].Else)
	}
}

// elsewhere is a program of which all stands at other places.
func elsewhere(p api.Tree) api.Tree {
	p = copied(p)
	moveDecls(p.Globals)
	moveDecls(p.Fields)
	for i := range p.Fns {
		p.Fns[i].At -= 5
		moveDecls(p.Fns[i].Params)
		moveDecls(p.Fns[i].Vars)
		moveBlock(p.Fns[i].Body)
	}
	return p
}

// same fails unless Same says so of two programs, whichever is handed in first.
func same(t *testing.T, a, b api.Tree, want bool) {
	t.Helper()
	if Same(a, b) != want || Same(b, a) != want {
		t.Fatalf("Same = %v, %v, want %v, of\n%+v\n%+v", Same(a, b), Same(b, a), want, a, b)
	}
}

// sameExpr fails unless SameExpr says so of two expressions, whichever is handed in first.
func sameExpr(t *testing.T, a, b api.Expr, want bool) {
	t.Helper()
	if SameExpr(a, b) != want || SameExpr(b, a) != want {
		t.Fatalf("SameExpr = %v, %v, want %v, of %+v, %+v", SameExpr(a, b), SameExpr(b, a), want, a, b)
	}
}

// 19.1: an expression says what itself says, and nothing else does.
func TestSameExpr(t *testing.T) {
	all := someExprs()
	for i, a := range all {
		for j, b := range all {
			b.Args = slices.Clone(b.Args)
			sameExpr(t, a, b, i == j)
		}
	}
}

// 19.1: no argument is as another one, wherever it is handed over.
func TestSameExprOfArguments(t *testing.T) {
	args := []string{"a", "b", "c", "d", "e", "f", "g", "h"}
	for _, kind := range []int{api.ExprCall, api.ExprVia} {
		e := api.Expr{Kind: kind, A: "f", Args: args}
		for i := range args {
			other := slices.Clone(args)
			other[i] = "z"
			sameExpr(t, e, api.Expr{Kind: kind, A: "f", Args: other}, false)
			sameExpr(t, e, api.Expr{Kind: kind, A: "f", Args: args[:i]}, false)
		}
		sameExpr(t, e, api.Expr{Kind: kind, A: "f", Args: slices.Clone(args)}, true)
	}
}

// 19.1: of each statement Same tells that it says what itself says, and that nothing else does, wherever both stand.
func TestSameStatements(t *testing.T) {
	all := someStmts()
	for i, a := range all {
		for j, b := range all {
			b.At = 3 * i
			same(t, program(a), program(b), i == j)
		}
	}
}

// 19.1: a statement counts in each kind of block, however deep.
func TestSameWithinBlocks(t *testing.T) {
	a, b, moved := lock("x"), lock("y"), lock("x")
	moved.At = 7
	for range 50 {
		a, b, moved = block(api.StmtWhile, "z", a), block(api.StmtWhile, "z", b), block(api.StmtWhile, "z", moved)
		same(t, program(a), program(b), false)
		same(t, program(a), program(moved), true)
		a, b, moved = block(api.StmtIf, "z", a), block(api.StmtIf, "z", b), block(api.StmtIf, "z", moved)
		moved.At = 8
		same(t, program(a), program(b), false)
		same(t, program(a), program(moved), true)
		a = api.Stmt{Kind: api.StmtIf, From: "z", Else: []api.Stmt{a}}
		b = api.Stmt{Kind: api.StmtIf, From: "z", Else: []api.Stmt{b}}
		moved = api.Stmt{Kind: api.StmtIf, From: "z", Else: []api.Stmt{moved}}
		same(t, program(a), program(b), false)
		same(t, program(a), program(moved), true)
	}
}

// 19.1: of statements their number and order count.
func TestSameCountsStatements(t *testing.T) {
	x, y := lock("x"), lock("y")
	lists := [][]api.Stmt{nil, {x}, {y}, {x, x}, {x, y}, {y, x}, {x, x, y}, {x, y, x}, {y, x, x}}
	for i, a := range lists {
		for j, b := range lists {
			same(t, program(a...), program(b...), i == j)
		}
	}
}

// 19.1: of globals, fields, arguments and variables, names and types count, how many there are, and their order.
func TestSameCountsDeclarations(t *testing.T) {
	x, y, other := api.Decl{Name: "x", Type: api.TypeInt}, api.Decl{Name: "y", Type: api.TypeInt}, api.Decl{Name: "x", Type: api.TypeRef}
	lists := [][]api.Decl{nil, {x}, {y}, {other}, {{Name: "x", Type: api.TypeFun}}, {x, y}, {y, x}, {other, y}, {y, other}, {x, y, other}}
	for i, a := range lists {
		for j, b := range lists {
			b = slices.Clone(b)
			moveDecls(b)
			same(t, api.Tree{Globals: a}, api.Tree{Globals: b}, i == j)
			same(t, api.Tree{Fields: a}, api.Tree{Fields: b}, i == j)
			same(t, api.Tree{Fns: []api.Fn{{Name: "f", Params: a}}}, api.Tree{Fns: []api.Fn{{Name: "f", Params: b}}}, i == j)
			same(t, api.Tree{Fns: []api.Fn{{Name: "f", Vars: a}}}, api.Tree{Fns: []api.Fn{{Name: "f", Vars: b}}}, i == j)
			none := len(a) == 0 && len(b) == 0
			same(t, api.Tree{Globals: a}, api.Tree{Fields: b}, none)
			same(t, api.Tree{Fns: []api.Fn{{Name: "f", Params: a}}}, api.Tree{Fns: []api.Fn{{Name: "f", Vars: b}}}, none)
		}
	}
}

// 19.1: of functions names and types count, how many there are, and their order; where they stand does not.
func TestSameCountsFunctions(t *testing.T) {
	f, g := api.Fn{Name: "f"}, api.Fn{Name: "g"}
	lists := [][]api.Fn{nil, {f}, {g}, {f, g}, {g, f}, {f, g, f}}
	for ret := api.TypeInt; ret <= api.TypeFun; ret++ {
		lists = append(lists, []api.Fn{{Name: "f", Ret: ret}}, []api.Fn{f, {Name: "g", Ret: ret}})
	}
	for i, a := range lists {
		for j, b := range lists {
			b = slices.Clone(b)
			for k := range b {
				b[k].At = 4 + k
			}
			same(t, api.Tree{Fns: a}, api.Tree{Fns: b}, i == j)
		}
	}
}

// R3: a list that is empty and one that is nil say the same.
func TestSameOfEmptyLists(t *testing.T) {
	full := api.Tree{Globals: []api.Decl{}, Fields: []api.Decl{}, Fns: []api.Fn{}}
	same(t, api.Tree{}, full, true)
	sameExpr(t, api.Expr{Kind: api.ExprCall, A: "f"}, api.Expr{Kind: api.ExprCall, A: "f", Args: []string{}}, true)
	same(t, program(block(api.StmtIf, "x")), program(api.Stmt{Kind: api.StmtIf, From: "x", Body: []api.Stmt{}, Else: []api.Stmt{}}), true)
	same(t, program(block(api.StmtWhile, "x")), program(api.Stmt{Kind: api.StmtWhile, From: "x", Body: []api.Stmt{}}), true)
	same(t, program(), api.Tree{Fns: []api.Fn{{Name: "main", Params: []api.Decl{}, Vars: []api.Decl{}, Body: []api.Stmt{}}}}, true)
}

// 19.1: programs by chance say the same as ones that stand elsewhere.
func TestSameWhereverTheyStand(t *testing.T) {
	r := rand.New(rand.NewSource(192))
	for range 500 {
		p := someTree(r)
		same(t, p, p, true)
		same(t, p, copied(p), true)
		same(t, p, elsewhere(p), true)
	}
}

// 19.1: programs by chance say the same just if they are printed the same.
func TestSameAndPrint(t *testing.T) {
	r := rand.New(rand.NewSource(193))
	from := someStmts()
	alike := 0
	for range 20000 {
		a, b := program(someBlock(r, from, 1)...), program(someBlock(r, from, 1)...)
		is := Print(a) == Print(b)
		same(t, a, b, is)
		if is {
			alike++
		}
	}
	if alike < 100 || alike > 19000 {
		t.Errorf("%d of the pairs say the same: too few of one sort are tried", alike)
	}
}
