package step_test

import (
	"fmt"
	"testing"

	"transputer/api"
	"transputer/step"
)

// P18.1: inputs from the host take the first word that is left.
func TestFromHost(t *testing.T) {
	for in, after := range map[string]string{
		"c0 ? INT v0":               "4; 200; 1; 10 20 30; 7 8; 0 1",
		"c0 ? INT v3[2]":            "5; 200; 1; 10 20 4; 7 8; 0 1",
		"c0 ? INT v3[v0 - 5]":       "5; 200; 1; 4 20 30; 7 8; 0 1",
		"c0 ? INT v3[INT v5[1]]":    "5; 200; 1; 10 4 30; 7 8; 0 1",
		"c0 ? INT v3[(v3[0] / 10)]": "5; 200; 1; 10 4 30; 7 8; 0 1",
	} {
		s := at(in)
		checkMoves(t, s, "0 4 @ skip @ "+after)
		s = at("seq|.par|..skip|.." + in + "|.stop")
		checkMoves(t, s, "0 4 @ stop @ "+after)
		s.In = nil
		checkMoves(t, s)
		s.In = []int32{}
		checkMoves(t, s)
	}
	for _, x := range []int32{0, 1, -1, 256, most, least} {
		s := at("c0 ? INT v0")
		s.In = []int32{x}
		checkMoves(t, s, fmt.Sprintf("0 %d @ skip @ %d; 200; 1; 10 20 30; 7 8; 0 1", x, x))
		s.In = []int32{x, 8, x, 9}
		checkMoves(t, s, fmt.Sprintf("0 %d @ skip @ %d; 200; 1; 10 20 30; 7 8; 0 1", x, x))
	}
	// Each of several inputs may be the one.
	checkMoves(t, at("par|.c0 ? INT v0|.stop|.seq|..c0 ? INT v3[0]|..stop"), "0 4 @ par|.skip|.stop|.seq|..c0 ? INT v3[0]|..stop @ 4; 200; 1; 10 20 30; 7 8; 0 1", "0 4 @ par|.c0 ? INT v0|.stop|.stop @ 5; 200; 1; 4 20 30; 7 8; 0 1")
	for _, x := range placeFaults {
		checkStops(t, "c0 ? INT "+x, "c2 ? INT "+x)
		s := at("c0 ? INT " + x)
		s.In = nil
		checkMoves(t, s, "tau @ stop")
	}
}

// P18.1: outputs to the host are always possible.
func TestToHost(t *testing.T) {
	for out, x := range map[string]int32{"0": 0, "-7": -7, "v0 * v3[2]": 150, "2147483647 PLUS v0": -2147483644, "INT v1": 200, "v3[v0 - 4]": 20, "-2147483648": least} {
		s := at("c1 ! INT " + out)
		checkMoves(t, s, fmt.Sprintf("1 %d @ skip", x))
		s = at("par|.stop|.seq|..c1 ! INT " + out + "|..clear v0")
		s.In = nil
		checkMoves(t, s, fmt.Sprintf("1 %d @ par|.stop|.clear v0", x))
	}
	checkMoves(t, at("par|.c1 ! INT 1|.c1 ! INT 2|.c1 ! INT 1"), "1 1 @ par|.skip|.c1 ! INT 2|.c1 ! INT 1", "1 2 @ par|.c1 ! INT 1|.skip|.c1 ! INT 1", "1 1 @ par|.c1 ! INT 1|.c1 ! INT 2|.skip")
	for _, x := range faults {
		checkStops(t, "c1 ! INT "+x, "c2 ! INT "+x)
	}
	for _, x := range boolFaults {
		checkStops(t, "c2 ! BOOL "+x)
	}
	checkStops(t, "c3 ! BYTE BYTE ((INT v1) + 56)")
}

// P18.1: an output and an input on a channel inside, in either order, wherever they are.
func TestMeet(t *testing.T) {
	after := "77; 200; 1; 10 20 30; 7 8; 0 1"
	checkMoves(t, at("par|.c2 ! INT 77|.c2 ? INT v0"), "2 77 @ skip @ "+after)
	checkMoves(t, at("par|.c2 ? INT v0|.c2 ! INT 77"), "2 77 @ skip @ "+after)
	checkMoves(t, at("par|.c2 ! INT 77|.stop|.c2 ? INT v0"), "2 77 @ par|.skip|.stop|.skip @ "+after)
	checkMoves(t, at("pri par|.c2 ? INT v0|.seq|..c2 ! INT 77|..stop"), "2 77 @ pri par|.skip|.stop @ "+after)
	checkMoves(t, at("seq|.par|..seq|...par|....c4 ? INT v0|....stop|...clear v0|..seq|...c4 ! INT 77|...clear v1|.clear v2"), "4 77 @ seq|.par|..seq|...par|....skip|....stop|...clear v0|..clear v1|.clear v2 @ "+after)
	checkMoves(t, at("par|.c2 ! INT 77|.wait|..1 & c2 ? INT v0|...clear v1"), "2 77 @ par|.skip|.clear v1 @ "+after)
	checkMoves(t, at("par|.c2 ! INT v0 + v3[1]|.c2 ? INT v3[v0 - 4]"), "2 25 @ skip @ 5; 200; 1; 10 25 30; 7 8; 0 1")
	checkMoves(t, at("par|.c2 ! BYTE v4[1]|.c2 ? BYTE v1"), "2 8 @ skip @ 5; 8; 1; 10 20 30; 7 8; 0 1")
	checkMoves(t, at("par|.c2 ! BOOL NOT v2|.c2 ? BOOL v5[1]"), "2 0 @ skip @ 5; 200; 1; 10 20 30; 7 8; 0 0")
	// Nobody is there, or elsewhere.
	for _, root := range []string{"c2 ! INT 1", "c2 ? INT v0", "wait|.1 & c2 ? INT v0|..skip", "par|.c2 ! INT 1|.c3 ? INT v0", "par|.c2 ! INT 1|.c2 ! INT 2", "par|.c2 ? INT v0|.c2 ? INT v0", "par|.c2 ? INT v0|.wait|..1 & c2 ? INT v0|...skip", "par|.c2 ! INT 1|.wait|..0 & c2 ? INT v0|...skip", "par|.c2 ! INT 1|.seq|..stop|..c2 ? INT v0", "seq|.c2 ! INT 1|.c2 ? INT v0", "par|.c2 ! INT 1|.seq|..c3 ! INT 1|..c2 ? INT v0", "seq|.par|..c2 ! INT 1|..skip|.c2 ? INT v0"} {
		checkMoves(t, at(root))
	}
	// A fault on one side leaves the other one as it is.
	checkMoves(t, at("par|.c2 ! INT 1 / 0|.c2 ? INT v0"), "tau @ par|.stop|.c2 ? INT v0")
	checkMoves(t, at("par|.c2 ! INT 1|.c2 ? INT v3[3]"), "tau @ par|.c2 ! INT 1|.stop")
	checkMoves(t, at("par|.c2 ! INT v3[3]|.c2 ? INT v3[3]"), "tau @ par|.stop|.c2 ? INT v3[3]", "tau @ par|.c2 ! INT v3[3]|.stop")
	checkMoves(t, at("par|.c2 ! INT 1|.wait|..1 & c2 ? INT v3[3]|...skip|..1 & c2 ? INT v0|...skip"), "2 1 @ skip @ 1; 200; 1; 10 20 30; 7 8; 0 1", "tau @ par|.c2 ! INT 1|.stop")
}

// P18.1: an output communicates with each input whose Item its value is of, from left to right.
func TestPartners(t *testing.T) {
	checkMoves(t, at("par|.c2 ? INT v0|.c2 ! INT 7|.c2 ? INT v3[0]|.c3 ? INT v0|.c2 ? BYTE v1"),
		"2 7 @ par|.skip|.skip|.c2 ? INT v3[0]|.c3 ? INT v0|.c2 ? BYTE v1 @ 7; 200; 1; 10 20 30; 7 8; 0 1",
		"2 7 @ par|.c2 ? INT v0|.skip|.skip|.c3 ? INT v0|.c2 ? BYTE v1 @ 5; 200; 1; 7 20 30; 7 8; 0 1",
		"2 7 @ par|.c2 ? INT v0|.skip|.c2 ? INT v3[0]|.c3 ? INT v0|.skip @ 5; 7; 1; 10 20 30; 7 8; 0 1")
	checkMoves(t, at("par|.c2 ! INT 1|.c2 ! INT 2|.c2 ? INT v0|.c2 ? INT v3[1]"),
		"2 1 @ par|.skip|.c2 ! INT 2|.skip|.c2 ? INT v3[1] @ 1; 200; 1; 10 20 30; 7 8; 0 1", "2 1 @ par|.skip|.c2 ! INT 2|.c2 ? INT v0|.skip @ 5; 200; 1; 10 1 30; 7 8; 0 1",
		"2 2 @ par|.c2 ! INT 1|.skip|.skip|.c2 ? INT v3[1] @ 2; 200; 1; 10 20 30; 7 8; 0 1", "2 2 @ par|.c2 ! INT 1|.skip|.c2 ? INT v0|.skip @ 5; 200; 1; 10 2 30; 7 8; 0 1")
	checkMoves(t, at("par|.wait|..1 & c2 ? INT v0|...clear v0|..1 & skip|...clear v1|..0 & c2 ? INT v0|...clear v2|..1 & c2 ? BYTE v4[0]|...clear v3|..1 & c3 ? INT v0|...clear v4|..1 & c2 ? INT v0|...clear v5|.c2 ! INT 9|.c2 ? INT v3[2]"),
		"tau @ par|.clear v1|.c2 ! INT 9|.c2 ? INT v3[2]",
		"2 9 @ par|.clear v0|.skip|.c2 ? INT v3[2] @ 9; 200; 1; 10 20 30; 7 8; 0 1", "2 9 @ par|.clear v3|.skip|.c2 ? INT v3[2] @ 5; 200; 1; 10 20 30; 9 8; 0 1", "2 9 @ par|.clear v5|.skip|.c2 ? INT v3[2] @ 9; 200; 1; 10 20 30; 7 8; 0 1",
		"2 9 @ par|.wait|..1 & c2 ? INT v0|...clear v0|..1 & skip|...clear v1|..0 & c2 ? INT v0|...clear v2|..1 & c2 ? BYTE v4[0]|...clear v3|..1 & c3 ? INT v0|...clear v4|..1 & c2 ? INT v0|...clear v5|.skip|.skip @ 5; 200; 1; 10 20 9; 7 8; 0 1")
}

// P18.1: whether a value is one of the Item of an input decides, not the Item of the output.
func TestItems(t *testing.T) {
	items := map[string]struct{ place, store string }{"INT": {"v0", "%d; 200; 1; 10 20 30; 7 8; 0 1"}, "BYTE": {"v1", "5; %d; 1; 10 20 30; 7 8; 0 1"}, "BOOL": {"v2", "5; 200; %d; 10 20 30; 7 8; 0 1"}}
	greatest := map[string]int32{"BYTE": 255, "BOOL": 1, "INT": most}
	for from := range items {
		for to, c := range items {
			for _, x := range []int32{0, 1, 2, 254, 255, 256, -1, most, least} {
				if from != "INT" && (x < 0 || x > greatest[from]) {
					continue
				}
				var meets, waits []string
				if to == "INT" || 0 <= x && x <= greatest[to] {
					store := fmt.Sprintf(c.store, x)
					meets, waits = []string{fmt.Sprintf("3 %d @ skip @ %s", x, store)}, []string{fmt.Sprintf("3 %d @ par|.stop|.skip @ %s", x, store)}
				}
				checkMoves(t, at(fmt.Sprintf("par|.c3 ! %s %d|.c3 ? %s %s", from, x, to, c.place)), meets...)
				checkMoves(t, at(fmt.Sprintf("par|.wait|..1 & c3 ? %s %s|...stop|.c3 ! %s %d", to, c.place, from, x)), waits...)
			}
		}
	}
}

// P18.1: the moves of several components, in their order, with MvTick behind them.
func TestOrder(t *testing.T) {
	const a, b, c, d, e = "c1 ! INT 1", "c2 ? INT v0", "clear v1", "c2 ! INT 8", "c0 ? INT v3[0]"
	tree := func(a, b, c, d, e string) string {
		return "par|.seq|.." + a + "|..stop|.pri par|..seq|...par|....stop|...." + b + "|...stop|..seq|..." + c + "|...stop|.par|..seq|...seq|...." + d + "|....stop|...stop|.." + e + "|.wait|..1 & c2 ? INT v3[1]|...stop|..1 & after -1|...skip"
	}
	rest := tree(a, b, c, d, e)
	s := at(rest)
	seqs := func(text string) api.KProc { return normalByRules(kproc(text)) }
	next := func(root api.KProc, store string) api.State {
		n := s
		n.Root = root
		if store != "" {
			n.Store = storeOf(store)
		}
		return n
	}
	waiting := func(becomes string, d string) api.KProc {
		p := kproc(tree(a, b, c, d, e))
		p.L[3] = kproc(becomes)
		return normalByRules(p)
	}
	fromHost := next(seqs(tree(a, b, c, d, "skip")), "5; 200; 1; 4 20 30; 7 8; 0 1")
	fromHost.In = []int32{9}
	want := []api.Move{
		{Kind: api.MvComm, Event: api.Event{C: 1, V: 1}, Next: next(seqs(tree("skip", b, c, d, e)), "")},
		{Kind: api.MvTau, Next: next(seqs(tree(a, b, "skip", d, e)), "5; 0; 1; 10 20 30; 7 8; 0 1")},
		{Kind: api.MvComm, Event: api.Event{C: 2, V: 8}, Next: next(seqs(tree(a, "skip", c, "skip", e)), "8; 200; 1; 10 20 30; 7 8; 0 1")},
		{Kind: api.MvComm, Event: api.Event{C: 2, V: 8}, Next: next(waiting("stop", "skip"), "5; 200; 1; 10 8 30; 7 8; 0 1")},
		{Kind: api.MvComm, Event: api.Event{C: 0, V: 4}, Next: fromHost},
		{Kind: api.MvTau, Next: next(waiting("skip", d), "")},
		tickOf(s),
	}
	checkMoveList(t, some(), s, want)
	if got := movesByRules(s); !equal(got, want) {
		t.Error(got)
	}
}

// P18.1: Event is zero except for communications, also after one.
func TestEvents(t *testing.T) {
	s := at("par|.c1 ! INT 3|.clear v0|.c0 ? INT v0|.while 1|..skip|.c2 ! INT 1|.c2 ? INT v0|.c3 ! INT 1 / 0|.alt")
	n := map[api.MoveKind]int{}
	for _, m := range step.Moves(some(), s) {
		n[m.Kind]++
		if m.Kind != api.MvComm && m.Event != (api.Event{}) {
			t.Error(m)
		}
	}
	if n[api.MvComm] != 3 || n[api.MvTau] != 4 || n[api.MvTick] != 1 {
		t.Error(n)
	}
}
