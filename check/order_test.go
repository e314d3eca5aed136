package check

import (
	"strconv"
	"strings"
	"testing"

	"keyway/api"
)

// 21.1: globals, then fields, then functions' names, then what stands in functions, then main, wherever they stand in the text.
func TestOrderOfDeclarations(t *testing.T) {
	global, field, fn := "global g: int; global |g: ref; ", "field f: int; field |f: ref; ", "fn f() { } fn |f() { } "
	in, main := "fn k() { |x = 1; } ", "fn |main(): int { } "
	l := []string{global, field, fn, in, main}
	for i, first := range l {
		rest := strings.ReplaceAll(strings.Join(l[i+1:], ""), "|", "")
		code := api.ErrName
		if first == main {
			code = api.ErrType
		}
		flawed(t, first+rest, code)
		flawed(t, rest+first, code)
		for _, other := range l[i+1:] {
			other = strings.ReplaceAll(other, "|", "")
			flawed(t, other+first, code)
			flawed(t, first+other, code)
		}
	}
}

// 21.1: of more flaws of one sort the first one.
func TestFirstOfDeclarations(t *testing.T) {
	for _, word := range []string{"global", "field"} {
		all := func(names string) string {
			var s strings.Builder
			for _, n := range strings.Fields(names) {
				if strings.HasPrefix(n, "|") {
					s.WriteString(word + " |" + n[1:] + ": int; ")
				} else {
					s.WriteString(word + " " + n + ": int; ")
				}
			}
			return s.String() + "fn main() { }"
		}
		flawed(t, all("a b |a b"), api.ErrName)
		flawed(t, all("a b |b a"), api.ErrName)
		flawed(t, all("a |a a a"), api.ErrName)
		flawed(t, all("a b c d |c b a"), api.ErrName)
	}
	flawed(t, "fn a() { } fn b() { } fn |b() { } fn a() { } fn main() { }", api.ErrName)
	flawed(t, "fn a() { x = 1; } fn b() { } fn |a() { }", api.ErrName)
}

// 21.1: function by function arguments, variables, statements.
func TestOrderWithinFunctions(t *testing.T) {
	const end = " fn main() { }"
	flawed(t, "fn f(a: int, |a: int) { var a: int; a = null; }"+end, api.ErrName)
	flawed(t, "fn f(a: int) { var |a: int; a = null; }"+end, api.ErrName)
	flawed(t, "fn f(a: int) { |a = null; x = 1; } fn g(b: int, b: int) { }"+end, api.ErrType)
	flawed(t, "fn f(a: int) { |x = null; a = null; } fn g(b: int, b: int) { }"+end, api.ErrName)
	flawed(t, "fn f() { } fn g(b: int, |b: int) { x = 1; } fn h() { x = 1; }"+end, api.ErrName)
	flawed(t, "fn h() { |x = 1; } fn g(b: int, b: int) { }"+end, api.ErrName)
	flawed(t, "fn f() { var a: int; |a = null; } fn g() { var b: int; var b: int; }"+end, api.ErrType)
	flawed(t, "fn main(a: int) { } fn f() { return; } fn g() { var b: int; |b = new; }", api.ErrType)
}

// 21.1: statements in order: what stands in a block behind its variable, else behind it, what stands behind it last.
func TestOrderOfStatements(t *testing.T) {
	const head = "fn main() { var i: int; var r: ref; "
	flawed(t, head+"|i = r; x = 1; }", api.ErrType)
	flawed(t, head+"|x = 1; i = r; }", api.ErrName)
	flawed(t, head+"|if r { x = 1; } else { x = 1; } x = 1; }", api.ErrType)
	flawed(t, head+"|if x { i = r; } else { i = r; } i = r; }", api.ErrName)
	flawed(t, head+"if i { |i = r; } else { x = 1; } x = 1; }", api.ErrType)
	flawed(t, head+"if i { } else { |i = r; } x = 1; }", api.ErrType)
	flawed(t, head+"if i { } else { } |i = r; x = 1; }", api.ErrType)
	flawed(t, head+"|while r { x = 1; } x = 1; }", api.ErrType)
	flawed(t, head+"while i { |i = r; } x = 1; }", api.ErrType)
	flawed(t, head+"while i { if i { while i { } } else { while i { |i = r; x = 1; } x = 1; } x = 1; } x = 1; }", api.ErrType)
	flawed(t, head+"while i { while i { } |i = r; } x = 1; }", api.ErrType)
}

// 21.1: in a statement what is set goes ahead of what it is set to, each name ahead of its type, and whether the types are the same comes last.
func TestOrderWithinStatements(t *testing.T) {
	each(t, api.ErrName,
		"x = i.fi;", "x = r + i;", "x = i + r;", "x = n(i);", "x = two(h, r);", "x = *i();", "x = y;", "x = n();",
		"i = gr;", "r = @x;", "h = r.x;", "i = r.x;", "r = i + x;", "r = one(x);", "r = f(i, r, x);", "i = *h(x);",
		"@x = r;", "@gi = x;", "@gh = gi;", "r.x = i;", "r.x = y;", "r.fi = x;", "x.fi = r;", "x.y = z;",
		"r = x + 1;", "h = x.fi;", "h = x + r;",
		"i = two(r, x);", "h = f(i, x, i);", "f(x, i, i);", "one(x);", "spawn two(r, x);", "x();", "x(i, y);", "x(y);", "return x;",
	)
	each(t, api.ErrType,
		"i = n(x);", "i = two(x);", "i = one(r, x);", "two(x, y, z);", "spawn two(x);", "n(x);", "r = two(x);",
		"i = r + x;", "i = h.x;", "h = i.x;", "i = two(h, x);", "f(r, x, y);", "f(i, i, x);", "spawn two(i, x);", "i = *r(x);", "*i(x);", "spawn *r(h, x);",
		"i.x = y;", "h.fi = x;", "i.fi = x;", "h.x = i;",
	)
}

// 21.1: what may be most of all, in order and with a flaw at the very end.
func TestMostOfAll(t *testing.T) {
	names := func(word, end string, n int) string {
		var s strings.Builder
		for i := range n {
			s.WriteString(word + " x" + strconv.Itoa(i) + end + " ")
		}
		return s.String()
	}
	all := names("global", ": int;", api.MostDecls) + names("field", ": ref;", api.MostDecls) + names("fn", "(a: fun) { }", api.MostDecls-1)
	fine(t, all+"fn main() { "+names("var", ": fun;", api.MostDecls)+" }")
	flawed(t, all+"fn main() { "+names("var", ": fun;", api.MostDecls-1)+"var |x0: int; }", api.ErrName)
	flawed(t, names("global", ": int;", api.MostDecls-1)+"global |x7: int; fn main() { }", api.ErrName)
	flawed(t, names("field", ": int;", api.MostDecls-1)+"field |x0: int; fn main() { }", api.ErrName)
	flawed(t, names("fn", "() { }", api.MostDecls-1)+"fn |x126(): int { }", api.ErrName)
	flawed(t, "fn main() { "+strings.Repeat("skip; ", api.MostStmts-1)+"|x = 1; }", api.ErrName)
	fine(t, "fn main() { "+strings.Repeat("skip; ", api.MostStmts)+"}")
}

// 21.1: blocks as deep as may be.
func TestMostDeep(t *testing.T) {
	deep, n := "fn main() { var i: int; ", api.MostDeep-1
	for _, way := range [][2]string{{"if i { ", "} "}, {"while i { ", "} "}, {"if i { } else { ", "} "}} {
		fine(t, deep+strings.Repeat(way[0], n)+"i = 1; "+strings.Repeat(way[1], n)+"}")
		flawed(t, deep+strings.Repeat(way[0], n)+"|i = null; "+strings.Repeat(way[1], n)+"}", api.ErrType)
		flawed(t, deep+strings.Repeat(way[0], n)+strings.Repeat(way[1], n)+"|i = null; }", api.ErrType)
	}
}

// R1: as many arguments as may be, and one that is wrong.
func TestMostArguments(t *testing.T) {
	const head = "fn f(a: int, b: ref, c: fun, d: int, e: ref, f: fun, g: int, h: ref): fun { return c; } fn main() { var i: int; var r: ref; var h: fun; "
	fine(t, head+"h = f(i, r, h, i, r, h, i, r); spawn *h(i, r, h, i, r, h, i, r); }")
	flawed(t, head+"|h = f(i, r, h, i, r, h, i, i); }", api.ErrType)
	flawed(t, head+"|h = f(i, r, h, i, r, h, i, x); }", api.ErrName)
	flawed(t, head+"|h = f(i, r, h, i, r, h, i); }", api.ErrType)
	flawed(t, head+"|h = *h(i, r, h, i, r, h, i, x); }", api.ErrName)
}
