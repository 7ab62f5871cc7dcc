package kernel

import (
	"strconv"
	"strings"

	"transputer/api"
	"transputer/expr"
)

// kindWords are the words of the kinds of values.
var kindWords = [...]string{api.TyInt: "INT", api.TyByte: "BYTE", api.TyBool: "BOOL"}

func numberText(n int) string { return strconv.Itoa(n) }

func varText(v int) string { return "v" + numberText(v) }

func channelText(c int) string { return "c" + numberText(c) }

func typeText(v api.Var) string {
	if v.Dim == 0 {
		return kindWords[v.Kind]
	}
	return "[" + numberText(v.Dim) + "]" + kindWords[v.Kind]
}

func operatorText(o api.Operator) string {
	word, _ := expr.Word(o)
	return word
}

func exprText(x *api.KExpr) string {
	switch x.Kind {
	case api.KxVar:
		return varText(x.V)
	case api.KxElem:
		return varText(x.V) + "[" + exprText(&x.L[0]) + "]"
	case api.KxMonadic:
		return operatorText(x.Oper) + " " + operandText(&x.L[0])
	case api.KxDyadic:
		return operandText(&x.L[0]) + " " + operatorText(x.Oper) + " " + operandText(&x.L[1])
	case api.KxConvert:
		return kindWords[x.To] + " " + operandText(&x.L[0])
	}
	return numberText(int(x.N))
}

func operandText(x *api.KExpr) string {
	switch x.Kind {
	case api.KxMonadic, api.KxDyadic, api.KxConvert:
		return "(" + exprText(x) + ")"
	}
	return exprText(x)
}

func placeText(x *api.KPlace) string {
	if len(x.Index) == 0 {
		return varText(x.V)
	}
	return varText(x.V) + "[" + exprText(&x.Index[0]) + "]"
}

// listText returns the texts of a list, separated by commas.
func listText[T any](l []T, text func(x *T) string) string {
	texts := make([]string, len(l))
	for i := range l {
		texts[i] = text(&l[i])
	}
	return strings.Join(texts, ", ")
}

func inputText(c int, item api.TypeKind, to *api.KPlace) string {
	return channelText(c) + " ? " + kindWords[item] + " " + placeText(to)
}

// headText returns the first line of a process.
func headText(p *api.KProc) string {
	switch p.Kind {
	case api.KpSkip:
		return "skip"
	case api.KpStop:
		return "stop"
	case api.KpClear:
		return "clear " + varText(p.V)
	case api.KpAssign:
		return listText(p.To, placeText) + " := " + listText(p.E, exprText)
	case api.KpIn:
		return inputText(p.C, p.Item, &p.To[0])
	case api.KpOut:
		return channelText(p.C) + " ! " + kindWords[p.Item] + " " + exprText(&p.E[0])
	case api.KpTime:
		return "time " + placeText(&p.To[0])
	case api.KpAfter:
		return "after " + exprText(&p.E[0])
	case api.KpSeq:
		return "seq"
	case api.KpPar:
		return "par"
	case api.KpPriPar:
		return "pri par"
	case api.KpIf:
		return "if"
	case api.KpAlt:
		return "alt"
	case api.KpPriAlt:
		return "pri alt"
	}
	return "while " + exprText(&p.E[0])
}

func guardText(g *api.KGuard) string {
	cond := exprText(&g.Cond)
	switch g.Kind {
	case api.GuSkip:
		return cond + " & skip"
	case api.GuInput:
		return cond + " & " + inputText(g.C, g.Item, &g.To)
	case api.GuAfter:
		return cond + " & after " + exprText(&g.Time)
	}
	return cond
}

// writer writes the lines of a valid kernel.
type writer struct{ strings.Builder }

// line writes a line that is inside so many others.
func (w *writer) line(inside int, text string) {
	for range inside {
		w.WriteString("  ")
	}
	w.WriteString(text)
	w.WriteByte('\n')
}

func (w *writer) process(p *api.KProc, inside int) {
	w.line(inside, headText(p))
	for i := range p.L {
		w.process(&p.L[i], inside+1)
	}
	for i := range p.Guards {
		w.line(inside+1, guardText(&p.Guards[i]))
		w.process(&p.Guards[i].Body[0], inside+2)
	}
}

func (w *writer) kernel(k *api.Kernel) {
	for i, v := range k.Vars {
		w.line(0, varText(i)+" "+typeText(v))
	}
	ends := []string{fromHost: " in", toHost: " out"}
	for i := range k.Chans {
		end := ""
		if i < len(ends) {
			end = ends[i]
		}
		w.line(0, channelText(i)+end)
	}
	if len(k.Procs) > 0 {
		text := "procs"
		for _, n := range k.Procs {
			text += " " + numberText(n)
		}
		w.line(0, text)
	}
	w.process(&k.Root, 0)
}
