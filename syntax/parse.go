package syntax

import (
	"slices"

	"transputer/api"
	"transputer/expr"
	"transputer/layout"
	"transputer/lex"
	"transputer/types"
)

// failure ends the parser from wherever it is, at the row with this index.
type failure struct{ row int }

// parser reads rows. The one at the index at is the next one, or the one whose tokens are being read.
type parser struct {
	rows   []api.Row
	at     int
	tokens []api.Token // what is left of the row
	// readers read processes, by the first word of the row, which has been opened and not read.
	readers map[string]func(depth int) api.Process
}

func parserOf(l []api.Row) *parser {
	p := &parser{rows: l}
	p.readers = map[string]func(depth int) api.Process{
		skipWord:     p.readSkip,
		stopWord:     p.readStop,
		seqWord:      p.readSeq,
		parWord:      p.readPar,
		priWord:      p.readPri,
		placedWord:   p.readPlaced,
		altWord:      p.readAlt,
		ifWord:       p.readIf,
		caseWord:     p.readCase,
		whileWord:    p.readWhile,
		valWord:      p.readVal,
		protocolWord: p.readProtocol,
		procWord:     p.readProc,
		"INT":        p.readTyped,
		"BYTE":       p.readTyped,
		"BOOL":       p.readTyped,
		"CHAN":       p.readTyped,
		"TIMER":      p.readTyped,
		"[":          p.readTyped,
	}
	return p
}

func (p *parser) fail() { panic(failure{p.at}) }

// follows tells whether the next row has a depth.
func (p *parser) follows(depth int) bool { return p.at < len(p.rows) && p.rows[p.at].Depth == depth }

// open begins to read the next row, which must have a depth. If it has no tokens, whatever requires the first one fails.
func (p *parser) open(depth int) {
	if !p.follows(depth) {
		p.fail()
	}
	p.tokens, _, _ = lex.Tokens(p.rows[p.at].Text)
}

// close ends reading a row.
func (p *parser) close() {
	if len(p.tokens) > 0 {
		p.fail()
	}
	p.at++
}

// word returns the next token's text, which alone tells reserved words, symbols and names apart: "" if it is a number or a character, or if there is none.
func (p *parser) word() string {
	if len(p.tokens) == 0 {
		return ""
	}
	return p.tokens[0].Text
}

// take takes as many tokens.
func (p *parser) take(n int) { p.tokens = p.tokens[n:] }

// takes takes the next token if it is this word, and tells whether it was.
func (p *parser) takes(word string) bool {
	if p.word() != word {
		return false
	}
	p.take(1)
	return true
}

// require takes tokens that must be these words.
func (p *parser) require(words ...string) {
	for _, word := range words {
		if !p.takes(word) {
			p.fail()
		}
	}
}

func (p *parser) readName() string {
	name := p.word()
	if !lex.Name(name) {
		p.fail()
	}
	p.take(1)
	return name
}

func (p *parser) readExpr() api.Expr {
	x, n, e := expr.Front(p.tokens)
	if e != api.OK {
		p.fail()
	}
	p.take(n)
	return x
}

// readElement reads an expression that must be an element, without parentheses, which would leave no trace in it.
func (p *parser) readElement() api.Expr {
	bare := p.word() != opening
	x := p.readExpr()
	if !bare || !isElement(x) {
		p.fail()
	}
	return x
}

func (p *parser) readType() api.Type {
	t, n, e := types.Front(p.tokens)
	if e != api.OK {
		p.fail()
	}
	p.take(n)
	return t
}

func (p *parser) readPrimitive() api.Type {
	t := p.readType()
	if !isPrimitive(t) {
		p.fail()
	}
	return t
}

func (p *parser) readItem() api.TypeKind { return p.readPrimitive().Kind }

// readRep reads a replicator, if the row goes on.
func (p *parser) readRep() (r api.Rep) {
	if len(p.tokens) == 0 {
		return r
	}
	r.Name = p.readName()
	p.require(equals)
	r.Base = p.readExpr()
	p.require(forWord)
	r.Count = p.readExpr()
	return r
}

func (p *parser) readNumber() int {
	if len(p.tokens) == 0 || p.tokens[0].Kind != api.TokNumber {
		p.fail()
	}
	n := p.tokens[0].N
	p.take(1)
	return int(n)
}

func (p *parser) readFormal() api.Formal {
	if p.takes(valWord) {
		return api.Formal{Val: true, Type: p.readPrimitive(), Name: p.readName()}
	}
	return api.Formal{Type: p.readType(), Name: p.readName()}
}

// readPreceded reads elements for as long as this symbol is in front of the next one and no more than most.
func readPreceded[T any](p *parser, symbol string, most int, read func() T) (l []T) {
	for len(l) < most && p.takes(symbol) {
		l = append(l, read())
	}
	return l
}

// readSeparated reads at least one element.
func readSeparated[T any](p *parser, symbol string, most int, read func() T) []T {
	first := read()
	return append([]T{first}, readPreceded(p, symbol, most-1, read)...)
}

// readEnclosed reads any number of elements up to most and a closing parenthesis.
func readEnclosed[T any](p *parser, most int, read func() T) (l []T) {
	if p.takes(closing) {
		return nil
	}
	l = readSeparated(p, comma, most, read)
	p.require(closing)
	return l
}

// readRows reads what begins with rows at a depth: it ends at the first row that has another one.
func readRows[T any](p *parser, s span, depth int, read func(depth int) T) (l []T) {
	for len(l) < s.most && p.follows(depth) {
		l = append(l, read(depth))
	}
	if len(l) < s.least {
		p.fail()
	}
	return l
}

// readProcess reads a process, from its first row on.
func (p *parser) readProcess(depth int) api.Process {
	p.open(depth)
	read, ok := p.readers[p.word()]
	if !ok {
		read = p.readNamed
	}
	return read(depth)
}

// readLists reads the end of the first row of x, and the guards or processes that it requires behind it.
func (p *parser) readLists(depth int, x api.Process) api.Process {
	p.close()
	f, _ := formOf(x.Kind)
	f = f.with(x.Rep)
	x.Guards = readRows(p, f.guards, depth+1, func(depth int) api.Guard { return p.readGuard(depth, f.firstGuard) })
	x.L = readRows(p, f.l, depth+f.lower, p.readProcess)
	return x
}

// readWords reads a process that begins with a word, which nothing but a replicator may follow in its row.
func (p *parser) readWords(depth int, k api.ProcKind, word string) api.Process {
	p.require(word)
	x := api.Process{Kind: k}
	if f, _ := formOf(k); f.rep {
		x.Rep = p.readRep()
	}
	return p.readLists(depth, x)
}

func (p *parser) readSkip(depth int) api.Process { return p.readWords(depth, api.PrSkip, skipWord) }

func (p *parser) readStop(depth int) api.Process { return p.readWords(depth, api.PrStop, stopWord) }

func (p *parser) readSeq(depth int) api.Process { return p.readWords(depth, api.PrSeq, seqWord) }

func (p *parser) readPar(depth int) api.Process { return p.readWords(depth, api.PrPar, parWord) }

func (p *parser) readAlt(depth int) api.Process { return p.readWords(depth, api.PrAlt, altWord) }

func (p *parser) readIf(depth int) api.Process { return p.readWords(depth, api.PrIf, ifWord) }

func (p *parser) readPri(depth int) api.Process {
	p.require(priWord)
	if p.word() == altWord {
		return p.readWords(depth, api.PrPriAlt, altWord)
	}
	return p.readWords(depth, api.PrPriPar, parWord)
}

func (p *parser) readCase(depth int) api.Process {
	p.require(caseWord)
	return p.readLists(depth, api.Process{Kind: api.PrCase, Exprs: []api.Expr{p.readExpr()}})
}

func (p *parser) readWhile(depth int) api.Process {
	p.require(whileWord)
	return p.readLists(depth, api.Process{Kind: api.PrWhile, Exprs: []api.Expr{p.readExpr()}})
}

// readPlaced reads what may only be at depth 0: there, it is in nothing but specifications.
func (p *parser) readPlaced(depth int) api.Process {
	p.require(placedWord, parWord)
	if depth > 0 {
		p.fail()
	}
	p.close()
	x := api.Process{Kind: api.PrPlaced}
	x.L = readRows(p, span{1, api.MaxNodes}, depth+1, func(depth int) api.Process {
		x.Procs = append(x.Procs, p.readProcessor(depth))
		return p.readProcess(depth + 1)
	})
	return x
}

// readProcessor reads the row of a processor and returns its number.
func (p *parser) readProcessor(depth int) int {
	p.open(depth)
	p.require(processorWord)
	n := p.readNumber()
	if !mayProcessor(n) {
		p.fail()
	}
	p.close()
	return n
}

// readNamed reads a process that begins with a name, or finds that there is none.
func (p *parser) readNamed(depth int) api.Process {
	first := p.readElement()
	switch {
	case p.takes(receives):
		return p.readInput(depth, first)
	case p.takes(sends):
		sent := readSeparated(p, semicolon, mostSent, p.readExpr)
		return p.readLists(depth, api.Process{Kind: api.PrOutput, Chan: first, Exprs: sent})
	case first.Kind == api.ExName && p.takes(opening):
		return p.readLists(depth, api.Process{Kind: api.PrCall, Name: first.S, Exprs: readEnclosed(p, mostExprs, p.readExpr)})
	}
	x := api.Process{Kind: api.PrAssign, Targets: []api.Expr{first}}
	x.Targets = append(x.Targets, readPreceded(p, comma, mostTargets-1, p.readElement)...)
	p.require(becomes)
	x.Exprs = readSeparated(p, comma, mostExprs, p.readExpr)
	return p.readLists(depth, x)
}

// readInput reads what is behind a channel and the symbol of an input.
func (p *parser) readInput(depth int, channel api.Expr) api.Process {
	x := api.Process{Kind: api.PrInput, Chan: channel}
	switch {
	case p.takes(caseWord):
		x.Kind = api.PrCaseIn
	case p.takes(afterWord):
		x.Kind, x.Exprs = api.PrAfter, []api.Expr{p.readExpr()}
	default:
		x.Targets = readSeparated(p, semicolon, mostTargets, p.readElement)
	}
	return p.readLists(depth, x)
}

// readGuard reads a guard of one of the kinds that stand beside the kind first.
func (p *parser) readGuard(depth int, first api.GuardKind) (g api.Guard) {
	p.open(depth)
	switch first {
	case api.GuIf:
		g = api.Guard{Kind: api.GuIf, Cond: p.readExpr()}
	case api.GuSkip:
		g = p.readAlternative()
	case api.GuOption:
		g = p.readOption()
	case api.GuTag:
		g = api.Guard{Kind: api.GuTag, Name: p.readName(), Targets: readPreceded(p, semicolon, mostTargets, p.readElement)}
	}
	p.close()
	g.Body = []api.Process{p.readProcess(depth + 1)}
	return g
}

func (p *parser) readOption() api.Guard {
	if p.takes(elseWord) {
		return api.Guard{Kind: api.GuElse}
	}
	return api.Guard{Kind: api.GuOption, Values: readSeparated(p, comma, mostValues, p.readExpr)}
}

// has tells whether a symbol is among the tokens that are left.
func (p *parser) has(symbol string) bool {
	return slices.ContainsFunc(p.tokens, func(x api.Token) bool { return x.Text == symbol })
}

// readAlternative reads the first row of a guard of an alternative, which begins with a condition if there is an ampersand in it.
func (p *parser) readAlternative() (g api.Guard) {
	if p.has(ampersand) {
		g.Cond = p.readExpr()
		p.require(ampersand)
		if p.takes(skipWord) {
			g.Kind = api.GuSkip
			return g
		}
	}
	g.Chan = p.readElement()
	p.require(receives)
	if p.takes(afterWord) {
		g.Kind, g.Time = api.GuAfter, p.readExpr()
		return g
	}
	g.Kind, g.Targets = api.GuInput, readSeparated(p, semicolon, mostTargets, p.readElement)
	return g
}

// readScope reads the end of the last row of a specification, and the process behind it.
func (p *parser) readScope(depth int, s api.Spec) api.Process {
	p.require(colon)
	return p.readLists(depth, api.Process{Kind: api.PrSpec, Spec: s})
}

func (p *parser) readVal(depth int) api.Process {
	p.require(valWord)
	s := api.Spec{Kind: api.SpVal, Type: p.readPrimitive(), Names: []string{p.readName()}}
	p.require(isWord)
	s.E = p.readExpr()
	return p.readScope(depth, s)
}

// readTyped reads a declaration or an abbreviation: both begin with a type.
func (p *parser) readTyped(depth int) api.Process {
	s := api.Spec{Kind: api.SpDeclare, Type: p.readType(), Names: readSeparated(p, comma, mostNames, p.readName)}
	if p.takes(isWord) {
		if len(s.Names) > 1 || !isPrimitive(s.Type) {
			p.fail()
		}
		s.Kind, s.E = api.SpIs, p.readElement()
	}
	return p.readScope(depth, s)
}

func (p *parser) readProtocol(depth int) api.Process {
	p.require(protocolWord)
	s := api.Spec{Kind: api.SpProto, Names: []string{p.readName()}}
	if p.takes(isWord) {
		s.Proto.L = []api.Variant{{Items: readSeparated(p, semicolon, api.MaxItems, p.readItem)}}
		return p.readScope(depth, s)
	}
	p.close()
	s.Proto = api.Proto{Cases: true, L: p.readVariants(depth + 1)}
	p.open(depth)
	return p.readScope(depth, s)
}

// readVariants reads the variants of a protocol, with the row in front of them.
func (p *parser) readVariants(depth int) []api.Variant {
	p.open(depth)
	p.require(caseWord)
	p.close()
	tags := map[string]bool{}
	return readRows(p, span{1, api.MaxTags}, depth+1, func(depth int) api.Variant {
		p.open(depth)
		v := api.Variant{Tag: p.readName(), Items: readPreceded(p, semicolon, api.MaxItems, p.readItem)}
		if tags[v.Tag] {
			p.fail()
		}
		tags[v.Tag] = true
		p.close()
		return v
	})
}

func (p *parser) readProc(depth int) api.Process {
	p.require(procWord)
	s := api.Spec{Kind: api.SpProc, Names: []string{p.readName()}}
	p.require(opening)
	s.Formals = readEnclosed(p, mostFormals, p.readFormal)
	p.close()
	s.Body = []api.Process{p.readProcess(depth + 1)}
	p.open(depth)
	return p.readScope(depth, s)
}

// errorAt returns the error of the row with an index, which is not one that the tables allow.
func errorAt(l []api.Row, row int) api.Errno {
	if row < len(l) {
		if _, _, e := lex.Tokens(l[row].Text); e != api.OK {
			return e
		}
	}
	return api.ErrSyntax
}

// Parse returns the process that rows are, or the index of the row where they go wrong.
func Parse(l []api.Row) (p api.Process, row int, e api.Errno) {
	if !layout.May(l) {
		return api.Process{}, 0, api.ErrArg
	}
	defer func() {
		if f, ok := recover().(failure); ok {
			row, e = f.row, errorAt(l, f.row)
		}
	}()
	r := parserOf(l)
	read := r.readProcess(0)
	if r.at < len(l) {
		r.fail()
	}
	return read, 0, api.OK
}
