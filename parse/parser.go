package parse

import "keyway/api"

// parser goes from word to word, TokEnd the last one. Behind a flaw it stands at the end, where nothing more is found.
type parser struct {
	words []api.Token
	at    int
	deep  int // blocks that are open
	stmts int // statements so far
	flaw  api.Flaw
}

// now is the word that it stands at.
func (p *parser) now() api.Token { return p.words[p.at] }

// behind is the word behind a name: a name is never the last one.
func (p *parser) behind() api.Token { return p.words[p.at+1] }

// fail keeps the flaw at this word, unless there is one already.
func (p *parser) fail(code api.Errno) {
	if p.flaw.Code == api.OK {
		p.flaw = api.Flaw{Code: code, At: p.now().At}
	}
	p.at = len(p.words) - 1
}

// is tells whether this word is a sign or a word of the language. Its text is enough for that: no name, no number and no end has the text of one.
func (p *parser) is(s string) bool { return p.now().S == s }

func (p *parser) isName() bool { return p.now().Kind == api.TokName }

// take passes over a sign or a word of the language, if it stands here.
func (p *parser) take(s string) bool {
	is := p.is(s)
	if is {
		p.at++
	}
	return is
}

// want passes over a sign that must stand here.
func (p *parser) want(s string) {
	if !p.take(s) {
		p.fail(api.ErrSyntax)
	}
}

// one passes over the word that begins one more of something, unless there are as many as may be.
func (p *parser) one(had, most int) {
	if had == most {
		p.fail(api.ErrMuch)
		return
	}
	p.at++
}

// arguments goes over what stands in brackets, with commas between: read reads one, which a name begins. What no name begins is none, so it can't be too much.
func (p *parser) arguments(read func()) {
	p.want("(")
	if p.take(")") {
		return
	}
	for had := 0; had == 0 || p.take(","); had++ {
		if p.isName() && had == api.MostArgs {
			p.fail(api.ErrMuch)
		}
		read()
	}
	p.want(")")
}

// name passes over a name that must stand here.
func (p *parser) name() string {
	w := p.now()
	if w.Kind != api.TokName {
		p.fail(api.ErrSyntax)
		return ""
	}
	p.at++
	return w.S
}

// number passes over a number that must stand here, perhaps with a minus ahead.
func (p *parser) number() int64 {
	below := p.take("-")
	w := p.now()
	if w.Kind != api.TokInt {
		p.fail(api.ErrSyntax)
		return 0
	}
	p.at++
	if below {
		return -w.N
	}
	return w.N
}

// typ passes over a type's word that must stand here.
func (p *parser) typ() int {
	t := api.TypeNone
	switch p.now().S {
	case "int":
		t = api.TypeInt
	case "ref":
		t = api.TypeRef
	case "fun":
		t = api.TypeFun
	default:
		p.fail(api.ErrSyntax)
		return t
	}
	p.at++
	return t
}
