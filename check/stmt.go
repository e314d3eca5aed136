package check

import "keyway/api"

func (c *checker) stmts(l []api.Stmt) {
	for _, s := range l {
		c.stmt(s)
	}
}

// stmt looks at what is set, then at what it is set to, at last whether their types are the same.
func (c *checker) stmt(s api.Stmt) {
	c.at = s.At
	switch s.Kind {
	case api.StmtSet:
		to := c.variable(s.To)
		c.same(to, c.expr(s.Expr))
	case api.StmtGlobal:
		to := c.known(c.globals, s.To)
		c.same(to, c.variable(s.From))
	case api.StmtField:
		to := c.field(s.To, s.Field)
		c.same(to, c.variable(s.From))
	case api.StmtIf:
		c.is(s.From, api.TypeInt)
		c.stmts(s.Body)
		c.stmts(s.Else)
	case api.StmtWhile:
		c.is(s.From, api.TypeInt)
		c.stmts(s.Body)
	case api.StmtLock, api.StmtUnlock:
		c.is(s.From, api.TypeRef)
	case api.StmtSpawn, api.StmtCall:
		c.expr(s.Expr)
	case api.StmtReturn:
		c.same(c.ret, c.returned(s.From))
	}
}

// returned is the type of what a return hands back.
func (c *checker) returned(from string) int {
	if from == "" {
		return api.TypeNone
	}
	return c.variable(from)
}

// known is the type of what a name stands for.
func (c *checker) known(names map[string]int, name string) int {
	t, is := names[name]
	if !is {
		c.fail(api.ErrName)
	}
	return t
}

func (c *checker) variable(name string) int { return c.known(c.vars, name) }

// is looks whether a variable is of a type.
func (c *checker) is(name string, t int) { c.same(t, c.variable(name)) }

// field is the type of a thing's field.
func (c *checker) field(thing, name string) int {
	c.is(thing, api.TypeRef)
	return c.known(c.fields, name)
}

// same looks whether a type is the one that it must be.
func (c *checker) same(must, is int) {
	if is != must && is != anyType {
		c.fail(api.ErrType)
	}
}
