package tree

import (
	"slices"

	"keyway/api"
)

// SameExpr tells whether two expressions say the same.
func SameExpr(a, b api.Expr) bool {
	a, b = exprSaid(a), exprSaid(b)
	return a.Kind == b.Kind && a.A == b.A && a.B == b.B && Sign(a.Op) == Sign(b.Op) && a.N == b.N && slices.Equal(a.Args, b.Args)
}

// Same tells whether two programs say the same, wherever they stand.
func Same(a, b api.Tree) bool {
	return sameDecls(a.Globals, b.Globals) && sameDecls(a.Fields, b.Fields) && slices.EqualFunc(a.Fns, b.Fns, sameFn)
}

func sameFn(a, b api.Fn) bool {
	return a.Name == b.Name && sameDecls(a.Params, b.Params) && Type(a.Ret) == Type(b.Ret) &&
		sameDecls(a.Vars, b.Vars) && sameBlock(a.Body, b.Body)
}

func sameDecls(a, b []api.Decl) bool { return slices.EqualFunc(a, b, sameDecl) }

func sameDecl(a, b api.Decl) bool { return a.Name == b.Name && Type(a.Type) == Type(b.Type) }

func sameBlock(a, b []api.Stmt) bool { return slices.EqualFunc(a, b, sameStmt) }

func sameStmt(a, b api.Stmt) bool {
	a, b = stmtSaid(a), stmtSaid(b)
	return a.Kind == b.Kind && a.To == b.To && a.Field == b.Field && a.From == b.From &&
		SameExpr(a.Expr, b.Expr) && sameBlock(a.Body, b.Body) && sameBlock(a.Else, b.Else)
}

// exprSaid is what an expression says: what its kind has no use for is left out, since it is not to be seen in a program.
func exprSaid(e api.Expr) api.Expr {
	said := api.Expr{Kind: e.Kind}
	switch e.Kind {
	case api.ExprInt:
		said.N = e.N
	case api.ExprNull, api.ExprNew:
	case api.ExprVar, api.ExprGlobal, api.ExprFun:
		said.A = e.A
	case api.ExprField:
		said.A, said.B = e.A, e.B
	case api.ExprArith:
		said.A, said.Op, said.B = e.A, e.Op, e.B
	case api.ExprArithN:
		said.A, said.Op, said.N = e.A, e.Op, e.N
	case api.ExprCall, api.ExprVia:
		said.A, said.Args = e.A, e.Args
	default:
		return api.Expr{}
	}
	return said
}

// stmtSaid is what a statement says, as exprSaid is; one of another kind says skip.
func stmtSaid(s api.Stmt) api.Stmt {
	said := api.Stmt{Kind: s.Kind}
	switch s.Kind {
	case api.StmtSet:
		said.To, said.Expr = s.To, s.Expr
	case api.StmtGlobal:
		said.To, said.From = s.To, s.From
	case api.StmtField:
		said.To, said.Field, said.From = s.To, s.Field, s.From
	case api.StmtIf:
		said.From, said.Body, said.Else = s.From, s.Body, s.Else
	case api.StmtWhile:
		said.From, said.Body = s.From, s.Body
	case api.StmtLock, api.StmtUnlock, api.StmtReturn:
		said.From = s.From
	case api.StmtSpawn, api.StmtCall:
		said.Expr = s.Expr
	default:
		said.Kind = api.StmtSkip
	}
	return said
}
