package alias

import "transputer/api"

// The rules return the name that they are broken for at the part i, or none.

// elementRule is rule 1: what an abbreviation stands for is not used by its own name, nor is another element chosen by the index.
func (w *whole) elementRule(i int) string {
	s := w.parts[i].Spec
	if s.Kind != api.SpIs {
		return ""
	}
	index := w.basesOf(s.E.L...)
	for x := range w.reached(i + 1) {
		if x.names[s.E.S] || x.written.meets(index) {
			return s.Names[0]
		}
	}
	return ""
}

// valueRule is rule 2: the value that is abbreviated does not change.
func (w *whole) valueRule(i int) string {
	s := w.parts[i].Spec
	if s.Kind != api.SpVal {
		return ""
	}
	value := w.basesOf(s.E)
	for x := range w.reached(i + 1) {
		if x.written.meets(value) {
			return s.Names[0]
		}
	}
	return ""
}

// callRule is rule 3: formals are abbreviations of the expressions of the call.
func (w *whole) callRule(i int) string {
	call := &w.parts[i]
	if call.body == 0 {
		return ""
	}
	variables, values := set[string]{}, []api.Expr(nil)
	for k, f := range w.formals(call) {
		x := call.Exprs[k]
		switch {
		case f.Val:
			values = append(values, x)
		case isElement(x) && variables[w.base(x.S)]:
			return call.Name
		case isElement(x):
			variables.add(w.base(x.S))
		}
	}
	inValues := w.basesOf(values...)
	if inValues.meets(variables) {
		return call.Name
	}
	for x := range w.reached(call.body) {
		if x.bases.meets(variables) || x.written.meets(inValues) {
			return call.Name
		}
	}
	return ""
}

// targetRule is rule 4: no variable is given two values at once.
func (w *whole) targetRule(i int) string {
	before := set[string]{}
	for _, x := range w.parts[i].Targets {
		variable := w.base(x.S)
		if before[variable] {
			return x.S
		}
		before.add(variable)
	}
	return ""
}
