package parse

import (
	"math/rand"
	"reflect"
	"strconv"
	"strings"
	"testing"

	"keyway/api"
	"keyway/lex"
	"keyway/tree"
)

// someWords are of all sorts of words.
var someWords = []string{
	"a", "b1", "_x", "main", "0", "1", "42", "2147483648",
	"global", "field", "fn", "var", "int", "ref", "fun", "if", "else", "while", "lock", "unlock", "spawn", "return", "skip", "new", "null",
	"==", "{", "}", "(", ")", ";", ":", ",", "=", ".", "@", "&", "*", "<", "+", "-",
}

// maker makes a program by chance, and its text, word by word, with anything between.
type maker struct {
	r    *rand.Rand
	text strings.Builder
}

// word writes one, and tells where it stands.
func (m *maker) word(s string) int {
	gaps := []string{"", "", " ", " ", "\t", "\n", "\r\n", "# note }\n", "  "}
	gap := gaps[m.r.Intn(len(gaps))]
	before := m.text.String()
	if gap == "" && before != "" && joins(before[len(before)-1], s[0]) {
		gap = " "
	}
	m.text.WriteString(gap)
	at := m.text.Len()
	m.text.WriteString(s)
	return at
}

// joins tells whether two bytes may be of one word.
func joins(a, b byte) bool {
	named := func(c byte) bool {
		return c == '_' || '0' <= c && c <= '9' || 'a' <= c && c <= 'z' || 'A' <= c && c <= 'Z'
	}
	return named(a) && named(b) || a == '=' && b == '='
}

func (m *maker) words(l ...string) {
	for _, s := range l {
		m.word(s)
	}
}

func (m *maker) pick(l ...string) string { return l[m.r.Intn(len(l))] }

// name writes one.
func (m *maker) name() string {
	s := m.pick("a", "b", "x", "y", "main", "_1", "fnx", "Z")
	m.word(s)
	return s
}

func (m *maker) typ() int {
	n := m.r.Intn(3)
	m.word([]string{"int", "ref", "fun"}[n])
	return n + 1
}

func (m *maker) decl() api.Decl {
	s := m.pick("a", "b", "x", "y", "g")
	at := m.word(s)
	m.word(":")
	return api.Decl{Name: s, Type: m.typ(), At: at}
}

// number writes one, perhaps with a minus ahead.
func (m *maker) number() int64 {
	n := []int64{0, 1, 7, 1<<31 - 1, 1 << 31}[m.r.Intn(5)]
	below := m.r.Intn(2) == 0
	if below {
		m.word("-")
	}
	m.word(strconv.FormatInt(n, 10))
	if below {
		return -n
	}
	return n
}

func (m *maker) call() api.Expr {
	e := api.Expr{Kind: api.ExprCall}
	if m.r.Intn(2) == 0 {
		m.word("*")
		e.Kind = api.ExprVia
	}
	e.A = m.name()
	m.word("(")
	for range m.r.Intn(4) {
		if len(e.Args) > 0 {
			m.word(",")
		}
		e.Args = append(e.Args, m.name())
	}
	m.word(")")
	return e
}

func (m *maker) expr() api.Expr {
	e := api.Expr{Kind: 1 + m.r.Intn(11)}
	switch e.Kind {
	case api.ExprInt:
		e.N = m.number()
	case api.ExprNull:
		m.word("null")
	case api.ExprVar:
		e.A = m.name()
	case api.ExprGlobal:
		m.word("@")
		e.A = m.name()
	case api.ExprField:
		e.A = m.name()
		m.word(".")
		e.B = m.name()
	case api.ExprNew:
		m.word("new")
	case api.ExprFun:
		m.word("&")
		e.A = m.name()
	case api.ExprArith, api.ExprArithN:
		e.A = m.name()
		e.Op = 1 + m.r.Intn(5)
		m.word([]string{"+", "-", "*", "<", "=="}[e.Op-1])
		if e.Kind == api.ExprArith {
			e.B = m.name()
		} else {
			e.N = m.number()
		}
	default:
		return m.call()
	}
	return e
}

// block writes some statements and the bracket behind them.
func (m *maker) block(deep int) []api.Stmt {
	var l []api.Stmt
	for range m.r.Intn(4) {
		l = append(l, m.stmt(deep))
	}
	m.word("}")
	return l
}

func (m *maker) stmt(deep int) api.Stmt {
	s := api.Stmt{Kind: 1 + m.r.Intn(11)}
	if deep == 0 && (s.Kind == api.StmtIf || s.Kind == api.StmtWhile) {
		s.Kind = api.StmtSet
	}
	switch s.Kind {
	case api.StmtSet, api.StmtField:
		s.To = m.pick("a", "b", "x")
		s.At = m.word(s.To)
		if s.Kind == api.StmtField {
			m.word(".")
			s.Field = m.name()
			m.word("=")
			s.From = m.name()
		} else {
			m.word("=")
			s.Expr = m.expr()
		}
	case api.StmtGlobal:
		s.At = m.word("@")
		s.To = m.name()
		m.word("=")
		s.From = m.name()
	case api.StmtIf, api.StmtWhile:
		m.blocks(&s, deep)
		return s
	case api.StmtLock, api.StmtUnlock:
		s.At = m.word([]string{"lock", "unlock"}[s.Kind-api.StmtLock])
		s.From = m.name()
	case api.StmtSpawn:
		s.At = m.word("spawn")
		s.Expr = m.call()
	case api.StmtCall:
		s.At = m.beginOfNext(func() { s.Expr = m.call() })
	case api.StmtReturn:
		s.At = m.word("return")
		if m.r.Intn(2) == 0 {
			s.From = m.name()
		}
	case api.StmtSkip:
		s.At = m.word("skip")
	}
	m.word(";")
	return s
}

// blocks writes if or while, with its blocks.
func (m *maker) blocks(s *api.Stmt, deep int) {
	s.At = m.word([]string{"if", "while"}[s.Kind-api.StmtIf])
	s.From = m.name()
	m.word("{")
	s.Body = m.block(deep - 1)
	if s.Kind == api.StmtIf && m.r.Intn(2) == 0 {
		m.words("else", "{")
		s.Else = m.block(deep - 1)
	}
}

// beginOfNext is where the first word stands that some doing writes.
func (m *maker) beginOfNext(write func()) int {
	before := m.text.Len()
	write()
	words, _ := lex.Lex(m.text.String())
	for _, w := range words {
		if w.At >= before {
			return w.At
		}
	}
	return -1
}

func (m *maker) function() api.Fn {
	m.word("fn")
	f := api.Fn{Name: m.pick("f", "g", "main")}
	f.At = m.word(f.Name)
	m.word("(")
	for range m.r.Intn(4) {
		if len(f.Params) > 0 {
			m.word(",")
		}
		f.Params = append(f.Params, m.decl())
	}
	m.word(")")
	if m.r.Intn(2) == 0 {
		m.word(":")
		f.Ret = m.typ()
	}
	m.word("{")
	for range m.r.Intn(3) {
		m.word("var")
		f.Vars = append(f.Vars, m.decl())
		m.word(";")
	}
	f.Body = m.block(3)
	return f
}

func (m *maker) program() api.Tree {
	var p api.Tree
	for range m.r.Intn(6) {
		switch m.r.Intn(3) {
		case 0:
			m.word("global")
			p.Globals = append(p.Globals, m.decl())
			m.word(";")
		case 1:
			m.word("field")
			p.Fields = append(p.Fields, m.decl())
			m.word(";")
		case 2:
			p.Fns = append(p.Fns, m.function())
		}
	}
	return p
}

// 20.1: programs by chance are read as they were made, with all places, and so are their prints.
func TestProgramsByChance(t *testing.T) {
	r := rand.New(rand.NewSource(202))
	for range 3000 {
		m := maker{r: r}
		want := m.program()
		parsed(t, m.text.String(), want)
		printed := tree.Print(want)
		p, flaw := Parse(printed)
		if flaw != (api.Flaw{}) || !tree.Same(p, want) || tree.Print(p) != printed {
			t.Fatalf("Parse(%q) = %+v, %v", printed, p, flaw)
		}
	}
}

// grammar is CIL by the chapters' words alone: for each place in a program all rows of words that may stand there, n a name, i a number.
type grammar struct {
	tops, vars, stmts, elses []string
}

// each is a text with each of some others in the place of a mark.
func each(text, mark string, l []string) []string {
	var all []string
	for _, s := range l {
		all = append(all, strings.ReplaceAll(text, mark, s))
	}
	return all
}

func newGrammar() grammar {
	var g grammar
	lists, params := []string{""}, []string{""}
	for k := range 6 {
		lists = append(lists, "n"+strings.Repeat(" , n", k))
		params = append(params, "n : T"+strings.Repeat(" , n : T", k))
	}
	calls := append(each("n ( L )", "L", lists), each("* n ( L )", "L", lists)...)
	exprs := []string{"i", "- i", "null", "n", "@ n", "n . n", "new", "& n"}
	for _, s := range []string{"n O n", "n O i", "n O - i"} {
		exprs = append(exprs, each(s, "O", []string{"+", "-", "*", "<", "=="})...)
	}
	exprs = append(exprs, calls...)
	g.stmts = []string{"@ n = n ;", "n . n = n ;", "lock n ;", "unlock n ;", "return ;", "return n ;", "skip ;", "if n {", "while n {", "}"}
	g.stmts = append(g.stmts, each("n = E ;", "E", exprs)...)
	g.stmts = append(g.stmts, each("C ;", "C", calls)...)
	g.stmts = append(g.stmts, each("spawn C ;", "C", calls)...)
	g.tops = []string{"global n : T ;", "field n : T ;"}
	g.tops = append(g.tops, each("fn n ( P ) {", "P", params)...)
	g.tops = append(g.tops, each("fn n ( P ) : T {", "P", params)...)
	g.vars, g.elses = []string{"var n : T ;"}, []string{"else {"}
	return g
}

// fits tells whether a word may stand for one of a row.
func fits(of string, w api.Token) bool {
	switch of {
	case "n":
		return w.Kind == api.TokName
	case "i":
		return w.Kind == api.TokInt
	case "T":
		return w.S == "int" || w.S == "ref" || w.S == "fun"
	}
	return w.S == of
}

// longest is how many words of some row stand there, at most, and whether they are all of it.
func longest(rows []string, words []api.Token) (int, bool) {
	most := 0
	for _, row := range rows {
		l := strings.Fields(row)
		n := 0
		for n < len(l) && n < len(words) && fits(l[n], words[n]) {
			n++
		}
		if n == len(l) {
			return n, true
		}
		most = max(most, n)
	}
	return most, false
}

// flawAt is the place in words of the first one that may not stand where it does; -1: there is none.
func (g grammar) flawAt(words []api.Token) int {
	var open []string // what began the blocks that are open
	rows := g.tops
	for at := 0; len(open) > 0 || words[at].Kind != api.TokEnd; {
		n, whole := longest(rows, words[at:])
		if !whole {
			return at + none(len(open) > 0, words[at:], n)
		}
		first, last := words[at].S, words[at+n-1].S
		at += n
		rows = g.stmts
		switch {
		case last == "{":
			open = append(open, first)
			if first == "fn" {
				rows = append(append([]string{}, g.vars...), g.stmts...)
			}
		case first == "var":
			rows = append(append([]string{}, g.vars...), g.stmts...)
		case first == "}":
			if open[len(open)-1] == "if" {
				rows = append(append([]string{}, g.elses...), g.stmts...)
			}
			open = open[:len(open)-1]
		}
		if len(open) == 0 {
			rows = g.tops
		}
	}
	return -1
}

// none is how many words stand ahead of the flaw: of a call that is none, those ahead of its first word.
func none(inBlock bool, words []api.Token, n int) int {
	if inBlock && n == 1 && words[0].Kind == api.TokName {
		return 0
	}
	if inBlock && n == 2 && words[0].S == "spawn" && words[1].Kind == api.TokName {
		return 1
	}
	return n
}

// told tells whether Parse says of a text what the grammar does: ErrSyntax just there, or nothing; and whether it is a program.
func (g grammar) told(t *testing.T, s string) bool {
	t.Helper()
	words, flaw := lex.Lex(s)
	if flaw.Code != api.OK {
		t.Fatalf("Lex(%q): %v", s, flaw)
	}
	p, flaw := Parse(s)
	at := g.flawAt(words)
	if at < 0 {
		if flaw != (api.Flaw{}) {
			t.Fatalf("Parse(%q): %v; want a program", s, flaw)
		}
		return true
	}
	if flaw != (api.Flaw{Code: api.ErrSyntax, At: words[at].At}) || !reflect.DeepEqual(p, api.Tree{}) {
		t.Fatalf("Parse(%q) = %+v, %v; want ErrSyntax at %d", s, p, flaw, words[at].At)
	}
	return false
}

// spoiled is words of which a few are changed by chance.
func spoiled(r *rand.Rand, l []string) []string {
	l = append([]string{}, l...)
	for range 1 + r.Intn(2) {
		if len(l) < 2 {
			return l
		}
		at := r.Intn(len(l) - 1)
		some := someWords[r.Intn(len(someWords))]
		switch r.Intn(6) {
		case 0:
			l = append(l[:at], l[at+1:]...)
		case 1:
			l = append(l[:at+1], l[at:]...)
		case 2:
			l[at], l[at+1] = l[at+1], l[at]
		case 3:
			l = l[:at+1]
		case 4:
			l[at] = some
		case 5:
			l = append(l[:at], append([]string{some}, l[at:]...)...)
		}
	}
	return l
}

// Words: of programs in which a few words were changed by chance, the first flaw is told.
func TestSpoiledPrograms(t *testing.T) {
	r := rand.New(rand.NewSource(203))
	g := newGrammar()
	programs := 0
	for range 20000 {
		m := maker{r: r}
		m.program()
		words, _ := lex.Lex(m.text.String())
		var l []string
		for _, w := range words[:len(words)-1] {
			l = append(l, w.S)
		}
		if g.told(t, strings.Join(spoiled(r, l), " ")) {
			programs++
		}
	}
	if programs < 500 || programs > 15000 {
		t.Errorf("%d of the texts are programs: too few of one sort are tried", programs)
	}
}

// Words: behind each beginning of a program, each word that may not stand there is told, and the end as well.
func TestEachWordAtEachPlace(t *testing.T) {
	g := newGrammar()
	words, _ := lex.Lex("global g: int; field f: ref; fn k(a: int, b: fun): ref { var x: int; var y: ref; x = -1; @g = x; x.f = y; if x { lock y; } else { unlock y; } " +
		"while x { spawn k(x, y); spawn *b(); } k(); *b(x, y); x = x + 1; x = x == -x; y = null; y = @g; y = y.f; y = new; b = &k; y = k(x); y = *b(x, y); skip; return y; } fn e() { return; }")
	text := ""
	for _, w := range words[:len(words)-1] {
		g.told(t, text)
		for _, some := range someWords {
			g.told(t, text+some)
			g.told(t, text+some+" ; }")
			g.told(t, text+some+" "+w.S+" ; }")
		}
		text += w.S + " "
	}
}
