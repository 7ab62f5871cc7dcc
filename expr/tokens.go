package expr

import (
	"transputer/api"
	"transputer/lex"
)

const (
	openRound   = "("
	closeRound  = ")"
	openSquare  = "["
	closeSquare = "]"
	sizeWord    = "SIZE"
)

// operatorWords are the words of the operators.
var operatorWords = [...]string{
	api.OperAdd: "+", api.OperSub: "-", api.OperMul: "*", api.OperDiv: "/", api.OperRem: "\\",
	api.OperPlus: "PLUS", api.OperMinus: "MINUS", api.OperTimes: "TIMES",
	api.OperBitAnd: "/\\", api.OperBitOr: "\\/", api.OperBitXor: "><", api.OperShl: "<<", api.OperShr: ">>",
	api.OperEq: "=", api.OperNe: "<>", api.OperLt: "<", api.OperGt: ">", api.OperLe: "<=", api.OperGe: ">=",
	api.OperAnd: "AND", api.OperOr: "OR", api.OperAfter: "AFTER",
	api.OperNeg: "-", api.OperModNeg: "MINUS", api.OperBitNot: "~", api.OperNot: "NOT",
}

// typeWords are the words of the types that an operand can be converted to.
var typeWords = [...]string{api.TyInt: "INT", api.TyByte: "BYTE", api.TyBool: "BOOL"}

// truthWords are the words of the truth values.
var truthWords = [...]string{"FALSE", "TRUE"}

// token returns the token of a reserved word or a symbol.
func token(word string) api.Token {
	if lex.Key(word) {
		return api.Token{Kind: api.TokKey, Text: word}
	}
	return api.Token{Kind: api.TokSym, Text: word}
}

func name(s string) api.Token { return api.Token{Kind: api.TokName, Text: s} }

// appendOperand returns l with the tokens of a valid expression behind it, written as an operand.
func appendOperand(l []api.Token, e api.Expr) []api.Token {
	switch e.Kind {
	case api.ExNumber, api.ExByte, api.ExBool, api.ExName, api.ExIndex:
		return appendExpr(l, e)
	}
	return append(appendExpr(append(l, token(openRound)), e), token(closeRound))
}

// appendExpr returns l with the tokens of a valid expression behind it.
func appendExpr(l []api.Token, e api.Expr) []api.Token {
	switch e.Kind {
	case api.ExNumber:
		return append(l, api.Token{Kind: api.TokNumber, N: e.N})
	case api.ExByte:
		return append(l, api.Token{Kind: api.TokByte, N: e.N})
	case api.ExBool:
		return append(l, token(truthWords[e.N]))
	case api.ExName:
		return append(l, name(e.S))
	case api.ExIndex:
		l = appendExpr(append(l, name(e.S), token(openSquare)), e.L[0])
		return append(l, token(closeSquare))
	case api.ExMonadic:
		return appendOperand(append(l, token(operatorWords[e.Oper])), e.L[0])
	case api.ExDyadic:
		l = append(appendOperand(l, e.L[0]), token(operatorWords[e.Oper]))
		return appendOperand(l, e.L[1])
	case api.ExConvert:
		return appendOperand(append(l, token(typeWords[e.To])), e.L[0])
	case api.ExSize:
		return append(l, token(sizeWord), name(e.S))
	}
	return l
}

// Word returns the symbol or reserved word of an operator.
func Word(o api.Operator) (string, bool) {
	if o == api.NoOperator || int(o) >= len(operatorWords) {
		return "", false
	}
	return operatorWords[o], true
}

// Tokens returns the tokens of an expression.
func Tokens(e api.Expr) ([]api.Token, api.Errno) {
	if !May(e) {
		return nil, api.ErrArg
	}
	return appendExpr(nil, e), api.OK
}
