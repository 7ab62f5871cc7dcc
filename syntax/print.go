package syntax

import (
	"slices"

	"transputer/api"
	"transputer/expr"
	"transputer/layout"
	"transputer/lex"
	"transputer/types"
)

// word returns the tokens that consist of one reserved word or symbol.
func word(s string) []api.Token {
	if lex.Key(s) {
		return []api.Token{{Kind: api.TokKey, Text: s}}
	}
	return []api.Token{{Kind: api.TokSym, Text: s}}
}

func name(s string) []api.Token { return []api.Token{{Kind: api.TokName, Text: s}} }

func number(n int) []api.Token { return []api.Token{{Kind: api.TokNumber, N: int32(n)}} }

// expression returns the tokens of an expression that is valid.
func expression(x api.Expr) []api.Token {
	l, _ := expr.Tokens(x)
	return l
}

// typed returns the tokens of a type that exists.
func typed(t api.Type) []api.Token {
	l, _ := types.Tokens(t)
	return l
}

func item(k api.TypeKind) []api.Token { return typed(api.Type{Kind: k}) }

func formal(f api.Formal) []api.Token {
	l := slices.Concat(typed(f.Type), name(f.Name))
	if f.Val {
		return append(word(valWord), l...)
	}
	return l
}

// preceded returns the tokens of a list, with a symbol before each of its elements.
func preceded[T any](symbol string, l []T, tokens func(T) []api.Token) (joined []api.Token) {
	for _, x := range l {
		joined = append(append(joined, word(symbol)...), tokens(x)...)
	}
	return joined
}

// separated returns the tokens of a list, with a symbol between its elements.
func separated[T any](symbol string, l []T, tokens func(T) []api.Token) []api.Token {
	if len(l) == 0 {
		return nil
	}
	return append(tokens(l[0]), preceded(symbol, l[1:], tokens)...)
}

func expressions(symbol string, l []api.Expr) []api.Token { return separated(symbol, l, expression) }

// replicator returns the tokens of a replicator, if it is one.
func replicator(r api.Rep) []api.Token {
	if r.Name == "" {
		return nil
	}
	return slices.Concat(name(r.Name), word(equals), expression(r.Base), word(forWord), expression(r.Count))
}

// head returns the tokens of the first row of a process other than one with a specification.
func head(p *api.Process) []api.Token {
	switch p.Kind {
	case api.PrSkip:
		return word(skipWord)
	case api.PrStop:
		return word(stopWord)
	case api.PrAssign:
		return slices.Concat(expressions(comma, p.Targets), word(becomes), expressions(comma, p.Exprs))
	case api.PrInput:
		return slices.Concat(expression(p.Chan), word(receives), expressions(semicolon, p.Targets))
	case api.PrOutput:
		return slices.Concat(expression(p.Chan), word(sends), expressions(semicolon, p.Exprs))
	case api.PrAfter:
		return slices.Concat(expression(p.Chan), word(receives), word(afterWord), expression(p.Exprs[0]))
	case api.PrCaseIn:
		return slices.Concat(expression(p.Chan), word(receives), word(caseWord))
	case api.PrSeq:
		return slices.Concat(word(seqWord), replicator(p.Rep))
	case api.PrPar:
		return slices.Concat(word(parWord), replicator(p.Rep))
	case api.PrPriPar:
		return slices.Concat(word(priWord), word(parWord))
	case api.PrPlaced:
		return slices.Concat(word(placedWord), word(parWord))
	case api.PrAlt:
		return slices.Concat(word(altWord), replicator(p.Rep))
	case api.PrPriAlt:
		return slices.Concat(word(priWord), word(altWord), replicator(p.Rep))
	case api.PrIf:
		return slices.Concat(word(ifWord), replicator(p.Rep))
	case api.PrCase:
		return slices.Concat(word(caseWord), expression(p.Exprs[0]))
	case api.PrWhile:
		return slices.Concat(word(whileWord), expression(p.Exprs[0]))
	}
	return slices.Concat(name(p.Name), word(opening), expressions(comma, p.Exprs), word(closing))
}

// condition returns the tokens of the condition in front of a guard, if it has one.
func condition(x api.Expr) []api.Token {
	if isNone(x) {
		return nil
	}
	return append(expression(x), word(ampersand)...)
}

// guardHead returns the tokens of the first row of a guard.
func guardHead(g *api.Guard) []api.Token {
	switch g.Kind {
	case api.GuSkip:
		return append(condition(g.Cond), word(skipWord)...)
	case api.GuInput:
		return slices.Concat(condition(g.Cond), expression(g.Chan), word(receives), expressions(semicolon, g.Targets))
	case api.GuAfter:
		return slices.Concat(condition(g.Cond), expression(g.Chan), word(receives), word(afterWord), expression(g.Time))
	case api.GuOption:
		return expressions(comma, g.Values)
	case api.GuElse:
		return word(elseWord)
	case api.GuTag:
		return append(name(g.Name), preceded(semicolon, g.Targets, expression)...)
	}
	return expression(g.Cond)
}

// specHead returns the tokens of the first row of a specification.
func specHead(s *api.Spec) []api.Token {
	first := name(s.Names[0])
	switch s.Kind {
	case api.SpVal:
		return slices.Concat(word(valWord), typed(s.Type), first, word(isWord), expression(s.E), word(colon))
	case api.SpIs:
		return slices.Concat(typed(s.Type), first, word(isWord), expression(s.E), word(colon))
	case api.SpProto:
		if s.Proto.Cases {
			return slices.Concat(word(protocolWord), first)
		}
		return slices.Concat(word(protocolWord), first, word(isWord), separated(semicolon, s.Proto.L[0].Items, item), word(colon))
	case api.SpProc:
		return slices.Concat(word(procWord), first, word(opening), separated(comma, s.Formals, formal), word(closing))
	}
	return slices.Concat(typed(s.Type), separated(comma, s.Names, name), word(colon))
}

// printer collects the rows of a process.
type printer struct{ rows []api.Row }

// add adds a row. One that is too long has no text, and rows with one of these are not valid in layer 7.
func (p *printer) add(depth int, tokens []api.Token) {
	text, _ := lex.Text(tokens)
	p.rows = append(p.rows, api.Row{No: len(p.rows) + 1, Depth: depth, Text: text})
}

func (p *printer) addProcess(x *api.Process, depth int) {
	if x.Kind == api.PrSpec {
		p.addSpec(&x.Spec, depth)
	} else {
		p.add(depth, head(x))
	}
	for i := range x.Guards {
		p.add(depth+1, guardHead(&x.Guards[i]))
		p.addProcess(&x.Guards[i].Body[0], depth+2)
	}
	f, _ := formOf(x.Kind)
	for i := range x.L {
		if x.Kind == api.PrPlaced {
			p.add(depth+1, append(word(processorWord), number(x.Procs[i])...))
		}
		p.addProcess(&x.L[i], depth+f.lower)
	}
}

func (p *printer) addSpec(s *api.Spec, depth int) {
	p.add(depth, specHead(s))
	if s.Proto.Cases {
		p.addVariants(s.Proto.L, depth+1)
		p.add(depth, word(colon))
	}
	if s.Kind == api.SpProc {
		p.addProcess(&s.Body[0], depth+1)
		p.add(depth, word(colon))
	}
}

func (p *printer) addVariants(l []api.Variant, depth int) {
	p.add(depth, word(caseWord))
	for _, v := range l {
		p.add(depth+1, append(name(v.Tag), preceded(semicolon, v.Items, item)...))
	}
}

// Print returns the rows of a process.
func Print(p api.Process) ([]api.Row, api.Errno) {
	if !May(p) {
		return nil, api.ErrArg
	}
	w := &printer{}
	w.addProcess(&p, 0)
	if !layout.May(w.rows) {
		return nil, api.ErrLong
	}
	return w.rows, api.OK
}
