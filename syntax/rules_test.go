package syntax_test

import (
	"fmt"
	"math"
	"reflect"
	"regexp"
	"slices"
	"strings"

	"transputer/api"
	"transputer/expr"
	"transputer/layout"
	"transputer/lex"
	"transputer/types"
)

// nameForm is what layer 8 says of a name, reserved words aside.
var nameForm = regexp.MustCompile(`\A[A-Za-z][A-Za-z0-9.]{0,31}\z`)

func isName(s string) bool { return nameForm.MatchString(s) && !slices.Contains(reserved, s) }

// The tables of the chapter, by the kind: the fields that a kind has, with how many elements a list may have and how many fields a replicator requires.
var (
	processTable = []string{api.PrSkip: " ", api.PrStop: " ", api.PrAssign: "Targets 1 8 Exprs 1 8", api.PrInput: "Chan Targets 1 8", api.PrOutput: "Chan Exprs 1 9",
		api.PrAfter: "Chan Exprs 1 1", api.PrCaseIn: "Chan Guards 1 16", api.PrSeq: "Rep L 0 2048", api.PrPar: "Rep L 0 2048", api.PrPriPar: "L 2 2", api.PrPlaced: "L 1 8 Procs 1 8",
		api.PrAlt: "Rep Guards 0 16", api.PrPriAlt: "Rep Guards 0 16", api.PrIf: "Rep Guards 0 16", api.PrCase: "Exprs 1 1 Guards 0 16", api.PrWhile: "Exprs 1 1 L 1 1",
		api.PrCall: "Name Exprs 0 8", api.PrSpec: "Spec L 1 1"}
	guardTable = []string{api.GuIf: "Cond Body 1 1", api.GuSkip: "Cond Body 1 1", api.GuInput: "Cond Chan Targets 1 8 Body 1 1", api.GuAfter: "Cond Chan Time Body 1 1",
		api.GuOption: "Values 1 8 Body 1 1", api.GuElse: "Body 1 1", api.GuTag: "Name Targets 0 8 Body 1 1"}
	specTable = []string{api.SpDeclare: "Type Names 1 8", api.SpVal: "Type Names 1 1 E", api.SpIs: "Type Names 1 1 E", api.SpProto: "Names 1 1 Proto", api.SpProc: "Names 1 1 Formals 0 8 Body 1 1"}
	guardsOf  = []string{api.PrCaseIn: "7", api.PrAlt: "2 3 4", api.PrPriAlt: "2 3 4", api.PrIf: "1", api.PrCase: "5 6", api.PrSpec: ""}
)

func isZero(v reflect.Value) bool {
	return fmt.Sprint(v.Interface()) == fmt.Sprint(reflect.Zero(v.Type()).Interface())
}

// fits tells whether a struct has the fields that the row for its kind says, and no others, where check holds for each element of lists and each other field.
func fits(x any, table []string, check func(field string, x any) bool) bool {
	v := reflect.ValueOf(x)
	kind := int(v.FieldByName("Kind").Uint())
	if kind >= len(table) || table[kind] == "" {
		return false
	}
	words := strings.Fields(table[kind])
	for i := range v.NumField() {
		field := v.Type().Field(i).Name
		at := slices.Index(words, field)
		switch {
		case field == "Kind":
		case at < 0:
			if !isZero(v.Field(i)) {
				return false
			}
		case v.Field(i).Kind() == reflect.Slice:
			var least, most int
			fmt.Sscan(words[at+1]+" "+words[at+2], &least, &most)
			if n := v.Field(i).Len(); n < least || n > most {
				return false
			}
			for j := range v.Field(i).Len() {
				if !check(field, v.Field(i).Index(j).Interface()) {
					return false
				}
			}
		default:
			if !check(field, v.Field(i).Interface()) {
				return false
			}
		}
	}
	return true
}

func isElement(x any) bool {
	e := x.(api.Expr)
	return (e.Kind == api.ExName || e.Kind == api.ExIndex) && expr.May(e)
}

func isPrimitive(t api.Type) bool { return t == integer || t == character || t == truthful }

// mayField tells whether what all three tables say of a field holds; of processes in it, nothing is asked.
func mayField(field string, x any) bool {
	switch field {
	case "Name", "Names":
		return isName(x.(string))
	case "Chan", "Targets":
		return isElement(x)
	case "Exprs", "Values", "Cond", "Time", "E":
		return expr.May(x.(api.Expr))
	case "Rep":
		r := x.(api.Rep)
		return isZero(reflect.ValueOf(r)) || isName(r.Name) && expr.May(r.Base) && expr.May(r.Count)
	case "Procs":
		return x.(int) >= 0 && x.(int) <= 7
	case "Type":
		return types.May(x.(api.Type))
	case "Proto":
		return types.MayProto(x.(api.Proto))
	case "Formals":
		f := x.(api.Formal)
		return isName(f.Name) && types.May(f.Type) && (!f.Val || isPrimitive(f.Type))
	}
	return true
}

func guardFits(g api.Guard) bool {
	return fits(g, guardTable, func(field string, x any) bool {
		if field == "Cond" && (g.Kind == api.GuInput || g.Kind == api.GuAfter) && isZero(reflect.ValueOf(x)) {
			return true
		}
		return mayField(field, x)
	})
}

func specFits(s api.Spec) bool {
	return fits(s, specTable, mayField) && (s.Kind != api.SpVal && s.Kind != api.SpIs || isPrimitive(s.Type)) && (s.Kind != api.SpIs || isElement(s.E))
}

// processFits tells whether a process alone has the fields that the tables say.
func processFits(p api.Process) bool {
	if !fits(p, processTable, mayField) || p.Kind == api.PrSpec && !specFits(p.Spec) || p.Kind == api.PrPlaced && len(p.L) != len(p.Procs) {
		return false
	}
	for _, g := range p.Guards {
		if !slices.Contains(strings.Fields(guardsOf[p.Kind]), fmt.Sprint(g.Kind)) || !guardFits(g) {
			return false
		}
	}
	return p.Rep.Name == "" || len(p.L) == 1 || len(p.Guards) == 1
}

// inside calls f with each process in p.
func inside(p *api.Process, f func(*api.Process)) {
	f(p)
	for i := range p.L {
		inside(&p.L[i], f)
	}
	for i := range p.Guards {
		for j := range p.Guards[i].Body {
			inside(&p.Guards[i].Body[j], f)
		}
	}
	for i := range p.Spec.Body {
		inside(&p.Spec.Body[i], f)
	}
}

// mayByRules tells whether a process is valid, as the chapter says.
func mayByRules(p api.Process) bool {
	top := []*api.Process{&p}
	for x := &p; x.Kind == api.PrSpec && len(x.L) > 0; {
		x = &x.L[0]
		top = append(top, x)
	}
	n, ok := 0, true
	inside(&p, func(x *api.Process) {
		n++
		ok = ok && processFits(*x) && (x.Kind != api.PrPlaced || slices.Contains(top, x))
	})
	return ok && n <= 2048 && !slices.ContainsFunc(rowsByRules(p), func(x api.Row) bool { return x.Depth > 32 })
}

// writer writes processes that have the fields of the tables, as rows, with the expressions as write returns them.
type writer struct {
	rows  []api.Row
	write func(api.Expr) string
}

func (w *writer) row(depth int, words ...string) {
	w.rows = append(w.rows, api.Row{No: len(w.rows) + 1, Depth: depth, Text: strings.Join(words, " ")})
}

func (w *writer) list(l []api.Expr, between string) string {
	texts := make([]string, len(l))
	for i, x := range l {
		texts[i] = w.write(x)
	}
	return strings.Join(texts, between)
}

// element returns the text of an element, which is never enclosed in parentheses.
func (w *writer) element(x api.Expr) string {
	if x.Kind == api.ExIndex {
		return x.S + "[" + w.write(x.L[0]) + "]"
	}
	return x.S
}

func (w *writer) elements(l []api.Expr, between string) string {
	texts := make([]string, len(l))
	for i, x := range l {
		texts[i] = w.element(x)
	}
	return strings.Join(texts, between)
}

func (w *writer) with(r api.Rep) string {
	if r.Name == "" {
		return ""
	}
	return " " + r.Name + " = " + w.write(r.Base) + " FOR " + w.write(r.Count)
}

func typeText(t api.Type) string {
	s := map[api.TypeKind]string{api.TyInt: "INT", api.TyByte: "BYTE", api.TyBool: "BOOL", api.TyTimer: "TIMER", api.TyChan: "CHAN OF " + t.Proto}[t.Kind]
	if t.Kind == api.TyChan && t.Proto == "" {
		s += typeText(api.Type{Kind: t.Item})
	}
	if t.Dim > 0 {
		s = fmt.Sprintf("[%d] %s", t.Dim, s)
	}
	return s
}

func itemTexts(l []api.TypeKind) (texts []string) {
	for _, k := range l {
		texts = append(texts, typeText(api.Type{Kind: k}))
	}
	return texts
}

// first returns the text of a process's first row.
func (w *writer) first(p api.Process) string {
	switch p.Kind {
	case api.PrAssign:
		return w.elements(p.Targets, ", ") + " := " + w.list(p.Exprs, ", ")
	case api.PrInput:
		return w.element(p.Chan) + " ? " + w.elements(p.Targets, "; ")
	case api.PrOutput:
		return w.element(p.Chan) + " ! " + w.list(p.Exprs, "; ")
	case api.PrAfter:
		return w.element(p.Chan) + " ? AFTER " + w.write(p.Exprs[0])
	case api.PrCaseIn:
		return w.element(p.Chan) + " ? CASE"
	case api.PrCase:
		return "CASE " + w.write(p.Exprs[0])
	case api.PrWhile:
		return "WHILE " + w.write(p.Exprs[0])
	case api.PrCall:
		return p.Name + "(" + w.list(p.Exprs, ", ") + ")"
	}
	words := map[api.ProcKind]string{api.PrSkip: "SKIP", api.PrStop: "STOP", api.PrSeq: "SEQ", api.PrPar: "PAR", api.PrPriPar: "PRI PAR", api.PrPlaced: "PLACED PAR", api.PrAlt: "ALT", api.PrPriAlt: "PRI ALT", api.PrIf: "IF"}
	return words[p.Kind] + w.with(p.Rep)
}

func (w *writer) guard(g api.Guard) string {
	cond := ""
	if g.Cond.Kind != api.NoExpr {
		cond = w.write(g.Cond)
	}
	if cond != "" && g.Kind != api.GuIf {
		cond += " & "
	}
	switch g.Kind {
	case api.GuSkip:
		return cond + "SKIP"
	case api.GuInput:
		return cond + w.element(g.Chan) + " ? " + w.elements(g.Targets, "; ")
	case api.GuAfter:
		return cond + w.element(g.Chan) + " ? AFTER " + w.write(g.Time)
	case api.GuOption:
		return w.list(g.Values, ", ")
	case api.GuElse:
		return "ELSE"
	case api.GuTag:
		return strings.TrimSuffix(g.Name+"; "+w.elements(g.Targets, "; "), "; ")
	}
	return cond
}

func (w *writer) spec(s api.Spec, depth int) {
	switch s.Kind {
	case api.SpDeclare:
		w.row(depth, typeText(s.Type), strings.Join(s.Names, ", ")+":")
	case api.SpVal:
		w.row(depth, "VAL", typeText(s.Type), s.Names[0], "IS", w.write(s.E)+":")
	case api.SpIs:
		w.row(depth, typeText(s.Type), s.Names[0], "IS", w.element(s.E)+":")
	case api.SpProto:
		if !s.Proto.Cases {
			w.row(depth, "PROTOCOL", s.Names[0], "IS", strings.Join(itemTexts(s.Proto.L[0].Items), "; ")+":")
			return
		}
		w.row(depth, "PROTOCOL", s.Names[0])
		w.row(depth+1, "CASE")
		for _, v := range s.Proto.L {
			w.row(depth+2, strings.Join(append([]string{v.Tag}, itemTexts(v.Items)...), "; "))
		}
		w.row(depth, ":")
	case api.SpProc:
		var formals []string
		for _, f := range s.Formals {
			formals = append(formals, strings.TrimSpace(map[bool]string{true: "VAL "}[f.Val]+typeText(f.Type)+" "+f.Name))
		}
		w.row(depth, "PROC", s.Names[0]+"("+strings.Join(formals, ", ")+")")
		w.process(s.Body[0], depth+1)
		w.row(depth, ":")
	}
}

func (w *writer) process(p api.Process, depth int) {
	if p.Kind == api.PrSpec {
		w.spec(p.Spec, depth)
		w.process(p.L[0], depth)
		return
	}
	w.row(depth, w.first(p))
	for i, x := range p.L {
		if p.Kind == api.PrPlaced {
			w.row(depth+1, "PROCESSOR", fmt.Sprint(p.Procs[i]))
			w.process(x, depth+2)
		} else {
			w.process(x, depth+1)
		}
	}
	for _, g := range p.Guards {
		w.row(depth+1, w.guard(g))
		w.process(g.Body[0], depth+2)
	}
}

// rowsByRules returns the rows of a process that has the fields of the tables, as the chapter says, whatever their lengths.
func rowsByRules(p api.Process) []api.Row {
	w := &writer{write: text}
	w.process(p, 0)
	return w.rows
}

// want is what the reader by rules requires next: from least to most rows of a kind at a depth, with what is behind them.
type want struct {
	what        string // "process", "if", "alt", "case", "tag", "processor", "CASE", "variant", ":"
	depth       int
	least, most int
	tags        map[string]bool
}

// split divides tokens at each one with this text.
func split(l []api.Token, text string) (parts [][]api.Token) {
	begin := 0
	for i, x := range l {
		if x.Text == text {
			parts = append(parts, l[begin:i])
			begin = i + 1
		}
	}
	return append(parts, l[begin:])
}

func areExpr(l []api.Token) bool {
	_, n, e := expr.Front(l)
	return e == api.OK && n == len(l)
}

func areElement(l []api.Token) bool {
	x, _, _ := expr.Front(l)
	return areExpr(l) && l[0].Kind == api.TokName && (x.Kind == api.ExName || x.Kind == api.ExIndex)
}

func areType(l []api.Token) (t api.Type, ok bool) {
	t, n, e := types.Front(l)
	return t, e == api.OK && n == len(l)
}

func areItem(l []api.Token) bool {
	t, ok := areType(l)
	return ok && isPrimitive(t)
}

func areName(l []api.Token) bool { return len(l) == 1 && l[0].Kind == api.TokName }

func areFormal(l []api.Token) bool {
	val := len(l) > 0 && l[0].Text == "VAL"
	if val {
		l = l[1:]
	}
	if len(l) == 0 || !areName(l[len(l)-1:]) {
		return false
	}
	t, ok := areType(l[:len(l)-1])
	return ok && (!val || isPrimitive(t))
}

// are tells whether tokens are a list of from least to most elements.
func are(l []api.Token, between string, least, most int, is func([]api.Token) bool) bool {
	if len(l) == 0 {
		return least == 0
	}
	parts := split(l, between)
	return len(parts) <= most && !slices.ContainsFunc(parts, func(l []api.Token) bool { return !is(l) })
}

func areRep(l []api.Token) bool {
	parts := split(l, "FOR")
	return len(parts) == 2 && len(parts[0]) > 2 && areName(parts[0][:1]) && parts[0][1].Text == "=" && areExpr(parts[0][2:]) && areExpr(parts[1])
}

// begins tells whether tokens begin with these words, and returns those behind them.
func begins(l []api.Token, words string) (rest []api.Token, ok bool) {
	for _, w := range strings.Fields(words) {
		if len(l) == 0 || l[0].Text != w {
			return nil, false
		}
		l = l[1:]
	}
	return l, true
}

// areInput tells whether tokens are an element, a question mark and what may be behind it.
func areInput(l []api.Token) bool {
	parts := split(l, "?")
	if len(parts) != 2 || !areElement(parts[0]) {
		return false
	}
	if time, ok := begins(parts[1], "AFTER"); ok {
		return areExpr(time)
	}
	return are(parts[1], ";", 1, 8, areElement)
}

// replicable tells what is required behind a row with words and perhaps a replicator.
func replicable(l []api.Token, what string, depth, most int) ([]want, bool) {
	if len(l) == 0 {
		return []want{{what, depth + 1, 0, most, nil}}, true
	}
	return []want{{what, depth + 1, 1, 1, nil}}, areRep(l)
}

// specRow tells whether tokens are the first row of a specification, and what is required behind it.
func specRow(l []api.Token, depth int) (next []want, ok bool) {
	scope := want{"process", depth, 1, 1, nil}
	end := want{":", depth, 1, 1, nil}
	if rest, ok := begins(l, "PROC"); ok {
		formals := len(rest) > 2 && rest[1].Text == "(" && rest[len(rest)-1].Text == ")"
		return []want{scope, end, {"process", depth + 1, 1, 1, nil}}, formals && areName(rest[:1]) && are(rest[2:len(rest)-1], ",", 0, 8, areFormal)
	}
	if rest, ok := begins(l, "PROTOCOL"); ok && areName(rest) {
		return []want{scope, end, {"variant", depth + 2, 1, 16, map[string]bool{}}, {"CASE", depth + 1, 1, 1, nil}}, true
	}
	if len(l) == 0 || l[len(l)-1].Text != ":" {
		return nil, false
	}
	parts := split(l[:len(l)-1], "IS")
	if rest, ok := begins(parts[0], "PROTOCOL"); ok {
		return []want{scope}, len(parts) == 2 && areName(rest) && are(parts[1], ";", 1, 8, areItem)
	}
	if rest, ok := begins(parts[0], "VAL"); ok {
		return []want{scope}, len(parts) == 2 && len(rest) == 2 && areItem(rest[:1]) && areName(rest[1:]) && areExpr(parts[1])
	}
	if len(parts) == 2 {
		return []want{scope}, len(parts[0]) == 2 && areItem(parts[0][:1]) && areName(parts[0][1:]) && areElement(parts[1])
	}
	_, n, e := types.Front(l)
	return []want{scope}, len(parts) == 1 && e == api.OK && are(parts[0][n:], ",", 1, 8, areName)
}

// processRow tells whether tokens are the first row of a process at a depth, and what is required behind it, in the reverse order.
func processRow(l []api.Token, depth int) (next []want, ok bool) {
	for words, what := range map[string]string{"SEQ": "process", "PAR": "process", "ALT": "alt", "PRI ALT": "alt", "IF": "if"} {
		if rest, ok := begins(l, words); ok {
			return replicable(rest, what, depth, map[string]int{"process": math.MaxInt, "alt": 16, "if": 16}[what])
		}
	}
	if rest, ok := begins(l, "PRI PAR"); ok {
		return []want{{"process", depth + 1, 2, 2, nil}}, len(rest) == 0
	}
	if rest, ok := begins(l, "PLACED PAR"); ok {
		return []want{{"processor", depth + 1, 1, 8, nil}}, len(rest) == 0 && depth == 0
	}
	if rest, ok := begins(l, "CASE"); ok {
		return []want{{"case", depth + 1, 0, 16, nil}}, areExpr(rest)
	}
	if rest, ok := begins(l, "WHILE"); ok {
		return []want{{"process", depth + 1, 1, 1, nil}}, areExpr(rest)
	}
	if len(l) == 1 {
		return nil, l[0].Text == "SKIP" || l[0].Text == "STOP"
	}
	if parts := split(l, ":="); len(parts) == 2 {
		return nil, are(parts[0], ",", 1, 8, areElement) && are(parts[1], ",", 1, 8, areExpr)
	}
	if parts := split(l, "!"); len(parts) == 2 {
		return nil, areElement(parts[0]) && are(parts[1], ";", 1, 9, areExpr)
	}
	if parts := split(l, "?"); len(parts) == 2 {
		if rest, ok := begins(parts[1], "CASE"); ok {
			return []want{{"tag", depth + 1, 1, 16, nil}}, len(rest) == 0 && areElement(parts[0])
		}
		return nil, areInput(l)
	}
	if len(l) > 2 && areName(l[:1]) && l[1].Text == "(" && l[len(l)-1].Text == ")" {
		return nil, are(l[2:len(l)-1], ",", 0, 8, areExpr)
	}
	return specRow(l, depth)
}

// altRow tells whether tokens are the first row of a guard of an alternative.
func altRow(l []api.Token) bool {
	parts := split(l, "&")
	if len(parts) == 2 && !areExpr(parts[0]) || len(parts) > 2 {
		return false
	}
	last := parts[len(parts)-1]
	return areInput(last) || len(parts) == 2 && len(last) == 1 && last[0].Text == "SKIP"
}

// match tells whether tokens are a row of the kind that is wanted, and what is required behind it.
func (w want) match(l []api.Token) (next []want, ok bool) {
	body := []want{{"process", w.depth + 1, 1, 1, nil}}
	switch w.what {
	case "process":
		return processRow(l, w.depth)
	case "if":
		return body, areExpr(l)
	case "alt":
		return body, altRow(l)
	case "case":
		return body, are(l, ",", 1, 8, areExpr) || len(l) == 1 && l[0].Text == "ELSE"
	case "tag":
		return body, areName(l[:1]) && (len(l) == 1 || l[1].Text == ";" && are(l[2:], ";", 1, 8, areElement))
	case "processor":
		rest, ok := begins(l, "PROCESSOR")
		return body, ok && len(rest) == 1 && rest[0].Kind == api.TokNumber && rest[0].N >= 0 && rest[0].N <= 7
	case "variant":
		was := w.tags[l[0].Text]
		w.tags[l[0].Text] = true
		return nil, !was && areName(l[:1]) && (len(l) == 1 || l[1].Text == ";" && are(l[2:], ";", 1, 8, areItem))
	}
	return nil, len(l) == 1 && l[0].Text == w.what
}

// parseByRules returns what Parse is to return for rows, other than a process.
func parseByRules(l []api.Row) (row int, e api.Errno) {
	if !layout.May(l) {
		return 0, api.ErrArg
	}
	left := []want{{"process", 0, 1, 1, nil}}
	for i, x := range l {
		tokens, _, e := lex.Tokens(x.Text)
		if e != api.OK {
			return i, e
		}
		for len(left) > 0 && left[len(left)-1].least <= 0 && (left[len(left)-1].most == 0 || left[len(left)-1].depth != x.Depth) {
			left = left[:len(left)-1]
		}
		if len(left) == 0 || left[len(left)-1].depth != x.Depth {
			return i, api.ErrSyntax
		}
		w := &left[len(left)-1]
		w.least--
		w.most--
		next, ok := w.match(tokens)
		if !ok {
			return i, api.ErrSyntax
		}
		left = append(left, next...)
	}
	if slices.ContainsFunc(left, func(w want) bool { return w.least > 0 }) {
		return len(l), api.ErrSyntax
	}
	return 0, api.OK
}
