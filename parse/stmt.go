package parse

import "keyway/api"

const noStmt = 0 // the kind of none

// open passes over the bracket that begins a block, unless it stands within as many as may be. A function's is one of them.
func (p *parser) open() {
	if p.is("{") && p.deep == api.MostDeep {
		p.fail(api.ErrMuch)
	}
	p.want("{")
	p.deep++
}

// rest is the statements of a block that is open, up to the bracket that ends it.
func (p *parser) rest() []api.Stmt {
	var l []api.Stmt
	for kind := p.kind(); kind != noStmt; kind = p.kind() {
		l = append(l, p.stmt(kind))
	}
	p.want("}")
	p.deep--
	return l
}

func (p *parser) block() []api.Stmt {
	p.open()
	return p.rest()
}

// kind is that of the statement that begins here.
func (p *parser) kind() int {
	if p.isName() {
		return p.kindOfName()
	}
	switch p.now().S {
	case "@":
		return api.StmtGlobal
	case "if":
		return api.StmtIf
	case "while":
		return api.StmtWhile
	case "lock":
		return api.StmtLock
	case "unlock":
		return api.StmtUnlock
	case "spawn":
		return api.StmtSpawn
	case "*":
		return api.StmtCall
	case "return":
		return api.StmtReturn
	case "skip":
		return api.StmtSkip
	}
	return noStmt
}

// kindOfName is that of the statement that a name begins. By the word behind it a call that is none is known while the name, where its flaw is, still stands here.
func (p *parser) kindOfName() int {
	switch p.behind().S {
	case "=":
		return api.StmtSet
	case ".":
		return api.StmtField
	case "(":
		return api.StmtCall
	}
	return noStmt
}

// stmt is the statement that begins here, of a kind that kind told.
func (p *parser) stmt(kind int) api.Stmt {
	s := api.Stmt{Kind: kind, At: p.now().At}
	if p.stmts == api.MostStmts {
		p.fail(api.ErrMuch)
		return s
	}
	p.stmts++
	switch kind {
	case api.StmtSet:
		s.To = p.name()
		p.want("=")
		s.Expr = p.expr()
	case api.StmtField:
		s.To = p.name()
		p.want(".")
		s.Field = p.name()
		s.From = p.setTo()
	case api.StmtCall:
		s.Expr = p.call()
	default:
		p.at++
		p.behindFirst(&s)
	}
	if kind != api.StmtIf && kind != api.StmtWhile {
		p.want(";")
	}
	return s
}

// setTo is the variable that a global or a field is set to, behind the sign.
func (p *parser) setTo() string {
	p.want("=")
	return p.name()
}

// behindFirst reads what stands behind the first word of a statement, where that one tells its kind.
func (p *parser) behindFirst(s *api.Stmt) {
	switch s.Kind {
	case api.StmtGlobal:
		s.To = p.name()
		s.From = p.setTo()
	case api.StmtIf:
		s.From = p.name()
		s.Body = p.block()
		if p.take("else") {
			s.Else = p.block()
		}
	case api.StmtWhile:
		s.From = p.name()
		s.Body = p.block()
	case api.StmtLock, api.StmtUnlock:
		s.From = p.name()
	case api.StmtSpawn:
		s.Expr = p.call()
	case api.StmtReturn:
		if !p.is(";") {
			s.From = p.name()
		}
	}
}
