package parse

import "keyway/api"

const noOp = 0 // the number of no operation

// expr is the expression that must stand here.
func (p *parser) expr() api.Expr {
	w := p.now()
	switch {
	case w.Kind == api.TokName:
		return p.named()
	case w.Kind == api.TokInt, w.S == "-":
		return api.Expr{Kind: api.ExprInt, N: p.number()}
	case p.take("null"):
		return api.Expr{Kind: api.ExprNull}
	case p.take("new"):
		return api.Expr{Kind: api.ExprNew}
	case p.take("@"):
		return api.Expr{Kind: api.ExprGlobal, A: p.name()}
	case p.take("&"):
		return api.Expr{Kind: api.ExprFun, A: p.name()}
	}
	return p.call()
}

// named is the expression that a name begins.
func (p *parser) named() api.Expr {
	if p.isCall() {
		return p.call()
	}
	e := api.Expr{Kind: api.ExprVar, A: p.name()}
	if p.take(".") {
		e.Kind, e.B = api.ExprField, p.name()
		return e
	}
	op := operation(p.now().S)
	if op == noOp {
		return e
	}
	p.at++
	e.Op = op
	if p.isName() {
		e.Kind, e.B = api.ExprArith, p.name()
	} else {
		e.Kind, e.N = api.ExprArithN, p.number()
	}
	return e
}

// operation is the one that a sign says.
func operation(s string) int {
	switch s {
	case "+":
		return api.OpAdd
	case "-":
		return api.OpSub
	case "*":
		return api.OpMul
	case "<":
		return api.OpLess
	case "==":
		return api.OpSame
	}
	return noOp
}

// isCall tells whether a function's name and its bracket stand here.
func (p *parser) isCall() bool { return p.isName() && p.behind().S == "(" }

// call is the one that must stand here; of one that is none, the flaw is here as well.
func (p *parser) call() api.Expr {
	e := api.Expr{Kind: api.ExprCall}
	if p.take("*") {
		e.Kind = api.ExprVia
	} else if !p.isCall() {
		p.fail(api.ErrSyntax)
	}
	e.A = p.name()
	e.Args = p.args()
	return e
}

// args are the variables that a call hands over.
func (p *parser) args() []string {
	var l []string
	p.arguments(func() { l = append(l, p.name()) })
	return l
}
