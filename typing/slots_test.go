package typing_test

import (
	"strconv"
	"strings"
	"testing"

	"transputer/api"
)

// way is how a part of a process may be written, and the error that it gives.
type way struct {
	text string
	e    api.Errno
}

// part is a part of the text of a process: one way to write it, or several; order says when it is checked.
type part struct {
	order int
	ways  []way
}

// partsOf returns the parts of a text, in which {1:x|~y|!z} is a part that is checked first and that may be written x, y, which gives ErrScope, or z, which gives ErrTyping.
func partsOf(s string) (l []part) {
	for x := range strings.SplitSeq(s, "{") {
		before, after, ok := strings.Cut(x, "}")
		if !ok {
			l = append(l, part{ways: []way{{text: x}}})
			continue
		}
		order, texts, _ := strings.Cut(before, ":")
		n, e := strconv.Atoi(order)
		if e != nil {
			panic(s)
		}
		p := part{order: n}
		for y := range strings.SplitSeq(texts, "|") {
			switch {
			case strings.HasPrefix(y, "~"):
				p.ways = append(p.ways, way{y[1:], api.ErrScope})
			case strings.HasPrefix(y, "!"):
				p.ways = append(p.ways, way{y[1:], api.ErrTyping})
			default:
				p.ways = append(p.ways, way{y, api.OK})
			}
		}
		l = append(l, p, part{ways: []way{{text: after}}})
	}
	return l
}

// eachText calls f with all texts of the parts in which at most so many of them give an error, and with the error of the part that is checked first.
func eachText(l []part, before string, errors int, first part, e api.Errno, f func(s string, e api.Errno)) {
	if len(l) == 0 {
		f(before, e)
		return
	}
	for _, w := range l[0].ways {
		switch {
		case w.e == api.OK:
			eachText(l[1:], before+w.text, errors, first, e, f)
		case errors > 0 && (e == api.OK || l[0].order < first.order):
			eachText(l[1:], before+w.text, errors-1, l[0], w.e, f)
		case errors > 0:
			eachText(l[1:], before+w.text, errors-1, first, e, f)
		}
	}
}

// checkSlots checks Check of all texts with at most two parts that give an error.
func checkSlots(t *testing.T, l []api.Spec, text string) {
	t.Helper()
	right, wrong := 0, 0
	eachText(partsOf(text), "", 2, part{}, api.OK, func(s string, e api.Errno) {
		t.Helper()
		checkAll(t, l, e, s)
		if e == api.OK {
			right++
		} else {
			wrong++
		}
	})
	if wrong == 0 {
		t.Errorf("%s has %d right ways and %d wrong ones", text, right, wrong)
	}
}

// slotsEnv is an environment for texts with slots: u and none have no specification.
func slotsEnv() []api.Spec {
	l := env("PROTOCOL pair IS INT; BYTE:/PROTOCOL some/.CASE/..put; INT/..all; BOOL; BYTE/..end/:",
		"INT i, j:/BYTE b:/BOOL f:/[4]INT v:/[5]BYTE w:/[6]BOOL g:/VAL INT k IS 1:/VAL BYTE kb IS 'a':/VAL BOOL kf IS TRUE:",
		"INT a IS i:/BYTE ab IS w[0]:/BOOL af IS f:/TIMER t:/CHAN OF INT c:/CHAN OF BYTE cb:/CHAN OF BOOL cf:/[3]CHAN OF INT cc:",
		"CHAN OF pair cp:/[2]CHAN OF pair ccp:/CHAN OF some cs:/[2]CHAN OF some ccs:/CHAN OF none cn:/CHAN OF k ck:",
		"PROC q(VAL INT x, INT y, [4]INT z, CHAN OF pair e)/.SKIP/:")
	wrong := api.Spec{Kind: api.SpProto, Names: []string{"wrong"}, Proto: api.Proto{Cases: true}}
	return append(l, append([]api.Spec{wrong}, env("CHAN OF wrong cw:")...)...)
}

// P13.2: each requirement of each kind of process broken alone, and each two of them at once.
func TestRequirements(t *testing.T) {
	l := slotsEnv()
	for _, s := range []string{
		"{1:i|a|v[i]|~u|~u[i]|~v[u]|!k|!v|!c|!t|!q|!pair|!v[b]|!i[0]|!i[u]} := {2:j + 1|k|~u|!b|!f|!v|!c|!q|!pair}",
		"{1:i|~u|!k} , {3:w[2]|ab|~u|!kb|!w|!t} := {2:j|~u|!b}, {4:'a'|~u|!1|!w}{5:|!, 1|!, u|!, b}",
		"{1:i|~u|!k} , {3:g[2]|af|~u|!kf|!g|!t}{5:|!, i|!, u|!, b} := {2:j|~u|!b}, {4:TRUE|~u|!1|!g}",
		"{1:i|~u|!k} , {3:!i|!u|!k|!b} := {2:k|~u|!b}",
		"{1:i|~u|!k} := {2:k|~u|!b}, {3:!1|!u|!i|!b}",

		"{1:t|~u|!i|!v|!q|!pair|!t[0]} ? {2:i|a|v[1]|~u|!b|!f|!k|!v|!t|!c}{3:|!; j|!; u|!; b}",
		"{1:c|cc[0]|~u|~cn|~cc[u]|!cc|!i|!ck|!cw|!cs|!q|!pair|!cc[b]} ? {2:i|a|v[1]|~u|!b|!f|!k|!v|!t|!c}{3:|!; j|!; u|!; b}",
		"{1:cp|ccp[i]|~u|~cn|!ccp|!v|!cw|!ccs} ? {2:i|v[0]|~u|!b|!k}; {3:b|w[1]|~u|!kb|!i|!w}{4:|!; i|!; u}",
		"{1:cp|~u|~cn|!ck} ? {2:!b|~u|!w|!k}", "cp ? {1:i|~u|!b}{2:!}", "cb ? {1:b|ab|w[0]|~u|!i|!f}", "cf ? {1:f|af|g[0]|~u|!i|!b}",

		"{1:c|cc[0]|~u|~cn|~cc[u]|!cc|!i|!ck|!cw|!t|!q|!pair|!cc[b]} ! {2:i|1|k|i + j|SIZE v|~u|!b|!f|!v|!t|!c}{3:|!; j|!; u|!; b}",
		"{1:cp|ccp[i]|~u|~cn|!ccp|!v|!cw} ! {2:i|v[0]|5|~u|!b|!kf}; {3:b|kb|'a'|~u|!i|!w}{4:|!; i|!; u}",
		"cp ! {1:i|~u|!b}{2:!}", "cb ! {1:b|'a'|BYTE i|~u|!i|!f}", "cf ! {1:f|i = j|~u|!i|!b}",
		"{1:cs|ccs[1]|~u|~cn|~ccs[u]|!ccs|!i|!ck|!cw} ! {2:put|!none|!u|!i|!1|!all[0]|!end + 1|!u + 1|!SIZE put}; {3:i|v[0]|5|~u|!b|!f}{4:|!; i|!; u}",
		"{1:cs|~u|!ccs} ! {2:all|!none|!u}; {3:f|i < 3|~u|!i|!v}; {4:b|'a'|~u|!1|!w}{5:|!; i|!; u}", "cs ! {1:end|!End|!u}{2:|!; i|!; u}", "cs ! {1:!put|!all|!i}", "cs ! all; {1:f|~u|!b}{2:!}",

		"{1:t|~u|!i|!c|!v|!q|!pair|!t[0]} ? AFTER {2:i|1|i PLUS 1|~u|!b|!f|!v|!t}",

		"WHILE {1:f|i < 3|~u|!i|!b|!g}/.{2:SKIP|~u := 1|!i := b}",
		"{1:q|~u|!i|!some|!t|!c}({3:1|~u|!b}, {4:i|~u|!k|!1}, {5:v|~u|!i}, {6:cp|~u|!c}{2:|!, 1|!, u})", "{1:q|~u|!i}({2:!1|!u|!b}, i, v)", "{1:q|~u|!i}(1, i, {2:!v|!u})", "{1:q|~u|!i}({2:!})",
	} {
		checkSlots(t, l, s)
	}
}

// P13.2: the same for processes with guards, whose own parts come before the process behind them, and this before the next guard.
func TestGuardRequirements(t *testing.T) {
	l := slotsEnv()
	for _, s := range []string{
		"{1:cs|ccs[1]|~u|~cn|!cp|!c|!ccs|!t|!i|!cw} ? CASE/.{2:put|!none|!i|!put2}; {3:i|v[0]|~u|!b|!k|!v}{4:|!; j|!; u}/..{5:SKIP|~u := 1|!f := 1}/.{6:end|!put|!none}{7:|!; i|!; u}/..{8:STOP|~u := 1|!f := 1}",
		"cs ? CASE/.{1:all|!none|!end}; {2:f|g[0]|~u|!i|!kf}; {3:b|ab|~u|!i|!kb}{4:|!; j|!; u}/..{5:SKIP|~u := 1|!f := 1}/.{6:put|!all|!none}; {7:i|~u|!b}/..STOP/.{8:end|!put|!all}/..{9:SKIP|~u := u|!i := f}",
		"{1:cs|~u|!c} ? CASE/.{2:end|!none|!u|!i|!End}/..{3:SKIP|~u := 1|!f := 1}/.{4:put; i|!none|!u|!end}/..{5:SKIP|~u := 1|!f := 1}",
		"cs ? CASE/.{1:!put|!all}/..{2:SKIP|~u := 1|!f := 1}/.end/..STOP", "cs ? CASE/.all; {1:f|~u|!b}{2:!}/..{3:SKIP|~u := 1|!f := 1}",

		"IF/.{1:f|i = j|~u|!i|!b|!g}/..{2:SKIP|~u := 1|!f := 1}/.{3:f|TRUE|~u|!1}/..{4:SKIP|~u := 1|!f := 1}/.{5:f|~u|!t}/..{6:STOP|~u := 1|!f := 1}",
		"ALT/.{1:f|i = j|~u|!i|!b|!g} & SKIP/..{2:SKIP|~u := 1|!f := 1}/.{3:f|TRUE|~u|!1} & SKIP/..{4:STOP|~u := 1|!f := 1}",
		"ALT/.{1:f & |i = j & |(f) & |~u & |!i & |!g & |}{2:cp|ccp[i]|~u|~cn|!ccp|!t|!cs|!cw|!ck|!i} ? {3:i|~u|!b|!k}; {4:b|~u|!i|!w}{5:|!; i|!; u}/..{6:SKIP|~u := 1|!f := 1}/.{7:f|~u|!i} & SKIP/..{8:SKIP|~u := 1|!f := 1}",
		"PRI ALT/.{1:f & |~u & |!i & |}{2:t|~u|!c|!i|!q} ? AFTER {3:i|~u|!b|!v}/..{4:SKIP|~u := 1|!f := 1}/.{5:f & |~u & |!i & |}{6:c|cc[0]|~u|~cn|!t|!cc} ? {7:i|~u|!b|!k}/..{8:SKIP|~u := 1|!f := 1}",
		"PRI ALT/.{1:f|~u|!i} & SKIP/..{2:SKIP|~u := 1|!f := 1}/.t ? AFTER {3:i|~u|!b}/..{4:STOP|~u := 1|!f := 1}/.{5:b = 'a'|~u|!b} & c ? {6:i|~u|!b}{7:|!; i|!; u}/..{8:STOP|~u := 1|!f := 1}",
		"ALT/.c ? {1:!i; j|!b|~u|!i; u}/..{2:SKIP|~u := 1}", "ALT/.cp ? {1:i|~u|!f}{2:!}/..{3:STOP|~u := 1}", "ALT/.cs ? {1:!i|!u}/..STOP",

		"CASE {1:i|i + 1|SIZE v|~u|!f|!v|!c|!t|!q}/.{2:1|k|~u|!b|!f}, {3:i|~u|!b|!f|!v}/..{4:SKIP|~u := 1|!f := 1}/.{5:ELSE|2|~u|!b}/..{6:SKIP|~u := 1|!f := 1}",
		"CASE {1:b|BYTE i|'a'|~u|!f|!w}/.{2:'a'|kb|~u|!i|!f}, {3:b|~u|!i|!f|!v}/..{4:SKIP|~u := 1|!f := 1}",
		"CASE {1:i|~u|!f}/.{2:1|~u|!b}/..{3:SKIP|~u := 1|!f := 1}/.ELSE/..{4:SKIP|~u := 1|!f := 1}/.{5:1|~u|!b|!ELSE}/..{6:SKIP|~u := 1|!f := 1}",
		"CASE i/.ELSE/..{1:SKIP|~u := 1|!f := 1}/.{2:1, i|~u|!b, i|!i, b|~1, u|!ELSE}/..{3:SKIP|~u := 1|!f := 1}/.{4:5|~u|!b|!ELSE}/..{5:SKIP|~u := 1|!f := 1}",
		"CASE i/.ELSE/..SKIP/.{1:!ELSE}/..{2:SKIP|~u := 1|!f := 1}/.{3:ELSE|~u|!b}/..{4:SKIP|~u := 1|!f := 1}", "CASE {1:i|b|~u|!f}", "CASE {1:i|b|~u|!f}/.ELSE/..{2:STOP|~u := 1}",
	} {
		checkSlots(t, l, s)
	}
}

// P13.2: the same for lists of processes, replicators and specifications. The name x has no specification outside.
func TestScopeRequirements(t *testing.T) {
	l := slotsEnv()
	for _, s := range []string{
		"SEQ/.{1:i := j|~u := 1|!f := 1}/.{2:SKIP|~u := 1|!f := 1}/.{3:SKIP|~u := 1|!f := 1}", "PAR/.{1:i := j|~u := 1|!f := 1}/.{2:SKIP|~u := 1|!f := 1}/.{3:SKIP|~u := 1|!f := 1}",
		"PRI PAR/.{1:i := j|~u := 1|!f := 1}/.{2:SKIP|~u := 1|!f := 1}",
		"PLACED PAR/.PROCESSOR 7/..{1:i := j|~u := 1|!f := 1}/.PROCESSOR 1/..{2:SKIP|~u := 1|!f := 1}/.PROCESSOR 7/..{3:SKIP|~u := 1|!f := 1}",
		"SEQ x = {1:i|1|k|SIZE v|~u|~x|!b|!f|!v|!t} FOR {2:j|0|v[0]|~u|~x|!b|!f|!v|!q}/.{3:v[x] := x|~u := x|!x := 1|!b := x|!c ? x|!f := 1}",
		"PAR x = {1:i|~u|~x|!b} FOR {2:j|~u|~x|!f}/.{3:cc[x] ! x|~u := x|!x := 1|!b := x|!c ? x}",
		"IF x = {1:i|~u|~x|!b} FOR {2:j|~u|~x|!f}/.{3:x = 1|f|~u = x|!x|!x = b}/..{4:v[x] := x|~u := x|!x := 1}",
		"ALT x = {1:i|~u|~x|!b} FOR {2:j|~u|~x|!f}/.{3:x = 1 & |f & |~u = x & |!x & |}{4:cc[x]|~cc[u]|!cc|!x|!t} ? {5:v[x]|i|~u|!x|!b}/..{6:v[x] := x|~u := x|!x := 1}",
		"PRI ALT x = {1:i|~u|~x|!b} FOR {2:j|~u|~x|!f}/.{3:x = 1 & |~u & |!x & |}{4:t|~u|!x} ? AFTER {5:x|~u|!b}/..{6:v[x] := x|~u := x|!x := 1}",
		"ALT x = {1:i|~u|~x|!b} FOR {2:j|~u|~x|!f}/.{3:x = 1|~u|!x} & SKIP/..{4:v[x] := x|~u := x|!x := 1}",

		"{1:INT|BYTE|BOOL|[4]INT|TIMER|CHAN OF INT|[3]CHAN OF BOOL|CHAN OF pair|[2]CHAN OF some|~CHAN OF none|~[2]CHAN OF x|!CHAN OF k|!CHAN OF wrong|![2]CHAN OF q|!CHAN OF t} x, y:/{2:SKIP|~u := 1|!f := 1}",
		"VAL INT x IS {1:i + 1|k|v[0]|~u|~x|!b|!f|!v|!c|!q}:/{2:i := x|~u := x|!x := i|!f := x}", "VAL BYTE x IS {1:b|'a'|~u|~x|!1|!f|!w}:/{2:b := x|~u := x|!x := b|!i := x}",
		"VAL BOOL x IS {1:f|b = 'a'|~u|~x|!1|!b|!g}:/{2:f := x|~u := x|!x := f|!i := x}",
		"INT x IS {1:i|a|v[i]|~u|~x|~v[u]|~u[b]|!k|!b|!f|!v|!c|!t|!q|!v[b]|!pair}:/{2:x := x + i|~u := x|!f := x}", "BYTE x IS {1:b|ab|w[i]|~u|~x|!kb|!i|!w}:/{2:x := b|~u := x|!x := 1}",
		"BOOL x IS {1:f|af|g[i]|~u|~x|!kf|!i|!g}:/{2:x := f|~u := x|!x := 1}",
		"PROTOCOL x IS INT:/{1:SKIP|~u := 1|!i := x|!x := i|!x ! 1}", "PROTOCOL x/.CASE/..put; INT/..x/:/{1:SKIP|~u := 1|!i := x|!x := i|!c ! x}",
		"PROC x()/.{1:SKIP|~u := 1|!f := 1|~x()}/:/{2:x()|SKIP|~u := 1|!f := 1|!x(1)|!x := 1|!i := x}",
		"PROC x(VAL INT m, CHAN OF {1:pair|INT|~none|~x|~m|!k|!wrong} n, [2]CHAN OF {2:some|~none|~o|~n|!t} o, BYTE p)/.{3:i := m|p := b|~u := x|!m := 1|~x(i)|!p := 1}/:/{4:SKIP|~i := m|~n ! 1|~p := b|!x()}",
		"PROC x(TIMER m, INT n, VAL BOOL o, [3]BYTE p, VAL BYTE r)/.{1:m ? n|n := SIZE p|p[n] := r|~u := 1|!o := TRUE|!r := b|!p := w|!m ? r}/:/{2:SKIP|~m ? i|~u := 1}",
	} {
		checkSlots(t, l, s)
	}
}
