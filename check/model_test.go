package check

import (
	"math/rand"
	"strconv"
	"testing"

	"keyway/api"
	"keyway/parse"
	"keyway/tree"
)

// maker makes programs by chance in which there is no flaw: the last letter of each name tells its type (i, r, h; of a function without a type n), so no map is needed to know it.
type maker struct {
	r   *rand.Rand
	fns []api.Fn
	f   api.Fn // the one whose statements are made
}

const letters = "nirh" // by the numbers of types

func named(word string, n, typ int) string {
	return word + strconv.Itoa(n) + letters[typ:typ+1]
}

// decls are of all types, in an order by chance.
func (m *maker) decls(word string) []api.Decl {
	var l []api.Decl
	for i, n := range m.r.Perm(3 + m.r.Intn(6)) {
		t := 1 + n%3
		l = append(l, api.Decl{Name: named(word, i, t), Type: t})
	}
	return l
}

// pick is the name of one that has this type.
func (m *maker) pick(l []api.Decl, typ int) string {
	for {
		if d := l[m.r.Intn(len(l))]; d.Type == typ {
			return d.Name
		}
	}
}

func (m *maker) variable(typ int) string {
	return m.pick(append(append([]api.Decl{}, m.f.Params...), m.f.Vars...), typ)
}

func (m *maker) someType() int { return 1 + m.r.Intn(3) }

// callOf is one of a function of this type, or of any if there is none.
func (m *maker) callOf(typ int) api.Expr {
	var l []api.Fn
	for _, f := range m.fns {
		if typ < 0 || f.Ret == typ {
			l = append(l, f)
		}
	}
	if len(l) == 0 || m.r.Intn(4) == 0 {
		e := api.Expr{Kind: api.ExprVia, A: m.variable(api.TypeFun)}
		for range m.r.Intn(4) {
			e.Args = append(e.Args, m.variable(m.someType()))
		}
		return e
	}
	f := l[m.r.Intn(len(l))]
	e := api.Expr{Kind: api.ExprCall, A: f.Name}
	for _, d := range f.Params {
		e.Args = append(e.Args, m.variable(d.Type))
	}
	return e
}

func (m *maker) expr(t api.Tree, typ int) api.Expr {
	switch m.r.Intn(5) {
	case 0:
		return api.Expr{Kind: api.ExprVar, A: m.variable(typ)}
	case 1:
		return api.Expr{Kind: api.ExprGlobal, A: m.pick(t.Globals, typ)}
	case 2:
		return api.Expr{Kind: api.ExprField, A: m.variable(api.TypeRef), B: m.pick(t.Fields, typ)}
	case 3:
		return m.callOf(typ)
	}
	op := 1 + m.r.Intn(5)
	l := [][]api.Expr{
		{{Kind: api.ExprInt, N: int64(m.r.Intn(9))}, {Kind: api.ExprArith, A: m.variable(1), Op: op, B: m.variable(1)}, {Kind: api.ExprArithN, A: m.variable(1), Op: op, N: 3}},
		{{Kind: api.ExprNull}, {Kind: api.ExprNew}},
		{{Kind: api.ExprFun, A: m.fns[m.r.Intn(len(m.fns))].Name}},
	}[typ-1]
	return l[m.r.Intn(len(l))]
}

func (m *maker) stmt(t api.Tree, deep int) api.Stmt {
	typ := m.someType()
	switch k := 1 + m.r.Intn(11); k {
	case api.StmtSet:
		return api.Stmt{Kind: k, To: m.variable(typ), Expr: m.expr(t, typ)}
	case api.StmtGlobal:
		return api.Stmt{Kind: k, To: m.pick(t.Globals, typ), From: m.variable(typ)}
	case api.StmtField:
		return api.Stmt{Kind: k, To: m.variable(api.TypeRef), Field: m.pick(t.Fields, typ), From: m.variable(typ)}
	case api.StmtIf:
		return api.Stmt{Kind: k, From: m.variable(api.TypeInt), Body: m.stmts(t, deep-1), Else: m.stmts(t, deep-1)}
	case api.StmtWhile:
		return api.Stmt{Kind: k, From: m.variable(api.TypeInt), Body: m.stmts(t, deep-1)}
	case api.StmtLock, api.StmtUnlock:
		return api.Stmt{Kind: k, From: m.variable(api.TypeRef)}
	case api.StmtSpawn, api.StmtCall:
		return api.Stmt{Kind: k, Expr: m.callOf(-1)}
	case api.StmtReturn:
		s := api.Stmt{Kind: k}
		if m.f.Ret != api.TypeNone {
			s.From = m.variable(m.f.Ret)
		}
		return s
	}
	return api.Stmt{Kind: api.StmtSkip}
}

func (m *maker) stmts(t api.Tree, deep int) []api.Stmt {
	var l []api.Stmt
	for range m.r.Intn(4) * min(deep, 1) {
		l = append(l, m.stmt(t, deep))
	}
	return l
}

func (m *maker) program() api.Tree {
	t := api.Tree{Globals: m.decls("g"), Fields: m.decls("f")}
	for i := range 1 + m.r.Intn(4) {
		f := api.Fn{Name: named("k", i, m.r.Intn(4)), Vars: m.decls("v")}
		f.Ret = map[byte]int{'n': 0, 'i': 1, 'r': 2, 'h': 3}[f.Name[len(f.Name)-1]]
		for j := range m.r.Intn(4) {
			typ := m.someType()
			f.Params = append(f.Params, api.Decl{Name: named("a", j, typ), Type: typ})
		}
		m.fns = append(m.fns, f)
	}
	m.fns = append(m.fns, api.Fn{Name: "main", Vars: m.decls("v")})
	m.r.Shuffle(len(m.fns), func(i, j int) { m.fns[i], m.fns[j] = m.fns[j], m.fns[i] })
	for _, m.f = range m.fns {
		m.f.Body = append(m.stmts(t, 4), m.stmt(t, 3))
		t.Fns = append(t.Fns, m.f)
	}
	return t
}

// all are a program's statements in the order in which they are written.
func all(t *api.Tree) []*api.Stmt {
	var l []*api.Stmt
	var walk func(s []api.Stmt)
	walk = func(s []api.Stmt) {
		for i := range s {
			l = append(l, &s[i])
			walk(s[i].Body)
			walk(s[i].Else)
		}
	}
	for i := range t.Fns {
		walk(t.Fns[i].Body)
	}
	return l
}

// slots are all names in a statement.
func slots(s *api.Stmt) []*string {
	var l []*string
	for _, p := range []*string{&s.To, &s.Field, &s.From, &s.Expr.A, &s.Expr.B} {
		if *p != "" {
			l = append(l, p)
		}
	}
	for i := range s.Expr.Args {
		l = append(l, &s.Expr.Args[i])
	}
	return l
}

// isVariable tells by the first letter whether a name is one of a variable or an argument.
func isVariable(s string) bool { return s[0] == 'v' || s[0] == 'a' }

// spoil makes one flaw in a statement, and tells which; false: there is nothing in it that can be wrong.
func spoil(r *rand.Rand, t *api.Tree, s *api.Stmt) (api.Errno, bool) {
	l := slots(s)
	if len(l) == 0 {
		return api.OK, false
	}
	p := l[r.Intn(len(l))]
	via := s.Expr.Kind == api.ExprVia
	free := via && (p == &s.To || p != &s.Expr.A)
	if isVariable(*p) && !free && r.Intn(2) == 0 {
		other := map[byte]string{'i': "rh", 'r': "ih", 'h': "ir"}[(*p)[len(*p)-1]]
		*p = "z" + string(other[r.Intn(2)])
		return api.ErrType, true
	}
	*p = "nix"
	return api.ErrName, true
}

// withOthers gives each function one variable more of each type.
func withOthers(t *api.Tree) {
	for i := range t.Fns {
		for typ := 1; typ <= 3; typ++ {
			t.Fns[i].Vars = append(t.Fns[i].Vars, api.Decl{Name: "z" + letters[typ:typ+1], Type: typ})
		}
	}
}

// read is a program as Parse tells it, with its places.
func read(t *testing.T, p api.Tree) api.Tree {
	t.Helper()
	q, flaw := parse.Parse(tree.Print(p))
	if flaw != (api.Flaw{}) || !tree.Same(p, q) {
		t.Fatalf("%v of %s", flaw, tree.Print(p))
	}
	return q
}

// 21.1: programs that are made without a flaw have none.
func TestProgramsWithoutFlaw(t *testing.T) {
	for seed := range int64(3000) {
		m := &maker{r: rand.New(rand.NewSource(seed))}
		p := read(t, m.program())
		if flaw := Check(p); flaw != (api.Flaw{}) {
			t.Fatalf("%d: Check = %v of\n%s", seed, flaw, tree.Print(p))
		}
	}
}

// 21.1: of programs that are spoiled in up to three statements the flaw is that of the first of these.
func TestSpoiledStatements(t *testing.T) {
	codes := map[api.Errno]int{}
	for seed := range int64(10000) {
		m := &maker{r: rand.New(rand.NewSource(seed))}
		p := m.program()
		withOthers(&p)
		first, code := -1, api.OK
		l := all(&p)
		for range 1 + m.r.Intn(3) {
			n := m.r.Intn(len(l))
			if n == first {
				continue
			}
			if c, did := spoil(m.r, &p, l[n]); did && (first < 0 || n < first) {
				first, code = n, c
			}
		}
		p = read(t, p)
		want := api.Flaw{Code: code}
		if first >= 0 {
			want.At = all(&p)[first].At
		}
		if flaw := Check(p); flaw != want {
			t.Fatalf("%d: Check = %v, want %v of\n%s", seed, flaw, want, tree.Print(p))
		}
		codes[code]++
	}
	if codes[api.ErrName] < 1000 || codes[api.ErrType] < 1000 {
		t.Errorf("too few of %v", codes)
	}
}

// 21.1: a name that is declared twice is told ahead of what is wrong of statements behind it, and behind what is wrong ahead of it.
func TestSpoiledDeclarations(t *testing.T) {
	for seed := range int64(5000) {
		m := &maker{r: rand.New(rand.NewSource(seed))}
		p := m.program()
		n, k := m.r.Intn(5), m.r.Intn(len(p.Fns))
		lists := []*[]api.Decl{&p.Globals, &p.Fields, &p.Fns[k].Vars}
		at := 0
		switch {
		case n < 3:
			l := *lists[n]
			at = 1 + m.r.Intn(len(l)-1)
			l[at].Name = l[m.r.Intn(at)].Name
		case n == 3:
			at = 1 + m.r.Intn(len(p.Fns)-1)
			p.Fns[at].Name = p.Fns[m.r.Intn(at)].Name
		case len(p.Fns[k].Params) > 0:
			l := p.Fns[k].Params
			at = m.r.Intn(len(p.Fns[k].Vars))
			p.Fns[k].Vars[at].Name = l[m.r.Intn(len(l))].Name
		default:
			continue
		}
		for i := k; i < len(p.Fns); i++ { // what follows is no matter
			p.Fns[i].Body = append(p.Fns[i].Body, api.Stmt{Kind: api.StmtLock, From: "nix"})
		}
		p = read(t, p)
		want := api.Flaw{Code: api.ErrName}
		want.At = []int{p.Globals[at%len(p.Globals)].At, p.Fields[at%len(p.Fields)].At, p.Fns[k].Vars[at%len(p.Fns[k].Vars)].At, p.Fns[at%len(p.Fns)].At, p.Fns[k].Vars[at%len(p.Fns[k].Vars)].At}[n]
		if flaw := Check(p); flaw != want {
			t.Fatalf("%d: Check = %v, want %v (%d) of\n%s", seed, flaw, want, n, tree.Print(p))
		}
	}
}

// R1: whatever names stand in a program, there is an answer, at a place in it.
func TestAnyNames(t *testing.T) {
	for seed := range int64(3000) {
		m := &maker{r: rand.New(rand.NewSource(seed))}
		p := m.program()
		for _, s := range all(&p) {
			for _, slot := range slots(s) {
				if m.r.Intn(3) == 0 {
					*slot = []string{"main", "g0i", "f0r", "v0i", "v1h", "a0r", "k0n", "zzz"}[m.r.Intn(8)]
				}
			}
		}
		p = read(t, p)
		text := tree.Print(p)
		flaw := Check(p)
		if flaw != Check(p) || flaw.At < 0 || flaw.At >= len(text) || flaw.Code != api.OK && flaw.Code != api.ErrName && flaw.Code != api.ErrType {
			t.Fatalf("%d: Check = %v of\n%s", seed, flaw, text)
		}
	}
}
