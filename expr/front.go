package expr

import (
	"transputer/api"
	"transputer/lex"
)

// failure ends the reader from wherever it is.
type failure struct{ e api.Errno }

// reader is a list of tokens, the first taken of which have been read, with open brackets among them that are not closed yet.
type reader struct {
	l     []api.Token
	taken int
	open  int
}

// next returns the next token, or one without a kind and a text if there is none that exists. Of tokens that exist, the text
// alone tells reserved words, symbols and names apart, and it is empty for numbers and characters.
func (r *reader) next() api.Token {
	if r.taken == len(r.l) || !lex.May(r.l[r.taken]) {
		return api.Token{}
	}
	return r.l[r.taken]
}

// take takes the next token, even if there is none: its caller then does not find what it requires, and ends the reader.
func (r *reader) take() api.Token {
	x := r.next()
	r.taken++
	return x
}

// takes takes the next token if it is this word, and tells whether it was.
func (r *reader) takes(word string) bool {
	if r.next().Text != word {
		return false
	}
	r.taken++
	return true
}

// takeOperator takes the next token if it is the word of an operator from first to last, and returns that operator or NoOperator.
func (r *reader) takeOperator(first, last api.Operator) api.Operator {
	word := r.next().Text
	for o := first; o <= last; o++ {
		if operatorWords[o] == word {
			r.taken++
			return o
		}
	}
	return api.NoOperator
}

// takeType takes the next token if it is the word of a type, and returns that type or NoType.
func (r *reader) takeType() api.TypeKind {
	word := r.next().Text
	for to := api.TyInt; to <= api.TyBool; to++ {
		if typeWords[to] == word {
			r.taken++
			return to
		}
	}
	return api.NoType
}

func (r *reader) readName() string {
	x := r.take()
	if x.Kind != api.TokName {
		panic(failure{api.ErrExpr})
	}
	return x.Text
}

// readInside reads an expression, and the bracket behind it. The one in front of it has been taken.
func (r *reader) readInside(closing string) api.Expr {
	if r.open == api.MaxDepth {
		panic(failure{api.ErrLong})
	}
	r.open++
	e := r.readExpr()
	if !r.takes(closing) {
		panic(failure{api.ErrExpr})
	}
	r.open--
	return e
}

// readWord reads what can be an operand and begins with a word, which has been taken.
func (r *reader) readWord(word string) api.Expr {
	for n, truth := range truthWords {
		if word == truth {
			return api.Expr{Kind: api.ExBool, N: int32(n)}
		}
	}
	if word != openRound {
		panic(failure{api.ErrExpr})
	}
	return r.readInside(closeRound)
}

func (r *reader) readOperand() api.Expr {
	x := r.take()
	switch x.Kind {
	case api.TokNumber:
		return api.Expr{Kind: api.ExNumber, N: x.N}
	case api.TokByte:
		return api.Expr{Kind: api.ExByte, N: x.N}
	case api.TokName:
		if r.takes(openSquare) {
			return api.Expr{Kind: api.ExIndex, S: x.Text, L: []api.Expr{r.readInside(closeSquare)}}
		}
		return api.Expr{Kind: api.ExName, S: x.Text}
	}
	return r.readWord(x.Text)
}

// readDyadic reads an operand and, if there is an operator behind it, that and the operand which it requires.
func (r *reader) readDyadic() api.Expr {
	left := r.readOperand()
	o := r.takeOperator(api.OperAdd, api.OperAfter)
	if o == api.NoOperator {
		return left
	}
	return api.Expr{Kind: api.ExDyadic, Oper: o, L: []api.Expr{left, r.readOperand()}}
}

func (r *reader) readExpr() api.Expr {
	if r.takes(sizeWord) {
		return api.Expr{Kind: api.ExSize, S: r.readName()}
	}
	if to := r.takeType(); to != api.NoType {
		return api.Expr{Kind: api.ExConvert, To: to, L: []api.Expr{r.readOperand()}}
	}
	if o := r.takeOperator(api.OperNeg, api.OperNot); o != api.NoOperator {
		return api.Expr{Kind: api.ExMonadic, Oper: o, L: []api.Expr{r.readOperand()}}
	}
	return r.readDyadic()
}

// Front returns the expression with which tokens begin, and how many tokens it has.
func Front(l []api.Token) (x api.Expr, n int, e api.Errno) {
	defer func() {
		if f, ok := recover().(failure); ok {
			e = f.e
		}
	}()
	r := &reader{l: l}
	read := r.readExpr()
	if !May(read) {
		return api.Expr{}, 0, api.ErrLong
	}
	return read, r.taken, api.OK
}
