package check

import "keyway/api"

const anyType = -1 // of what may be of each type; no type has this number

// expr is the type of an expression.
func (c *checker) expr(e api.Expr) int {
	switch e.Kind {
	case api.ExprInt:
		return api.TypeInt
	case api.ExprNull, api.ExprNew:
		return api.TypeRef
	case api.ExprVar:
		return c.variable(e.A)
	case api.ExprGlobal:
		return c.known(c.globals, e.A)
	case api.ExprField:
		return c.field(e.A, e.B)
	case api.ExprFun:
		c.called(e.A)
		return api.TypeFun
	case api.ExprArith:
		c.is(e.A, api.TypeInt)
		c.is(e.B, api.TypeInt)
		return api.TypeInt
	case api.ExprArithN:
		c.is(e.A, api.TypeInt)
		return api.TypeInt
	case api.ExprCall:
		return c.call(e)
	case api.ExprVia:
		return c.via(e)
	}
	return api.TypeNone
}

// called is the function that a name stands for.
func (c *checker) called(name string) api.Fn {
	f, is := c.fns[name]
	if !is {
		c.fail(api.ErrName)
	}
	return f
}

// call is the type of a call of a function. Arguments that no parameter asks for are not looked at: that there are some is a flaw ahead of all that they may have.
func (c *checker) call(e api.Expr) int {
	f := c.called(e.A)
	if len(e.Args) != len(f.Params) {
		c.fail(api.ErrType)
		return f.Ret
	}
	for i, a := range e.Args {
		c.is(a, f.Params[i].Type)
	}
	return f.Ret
}

// via is the type of a call of the function that a variable is: which one that is, and so what it asks for, is not known.
func (c *checker) via(e api.Expr) int {
	c.is(e.A, api.TypeFun)
	for _, a := range e.Args {
		c.variable(a)
	}
	return anyType
}
