package step_test

import (
	"strings"
	"testing"

	"transputer/api"
	"transputer/step"
)

// someVars are the types of the variables v0 to v5 of most kernels here.
const someVars = "INT BYTE BOOL [3]INT [2]BYTE [2]BOOL"

// someStore is a store of such a kernel.
const someStore = "5; 200; 1; 10 20 30; 7 8; 0 1"

// some is a kernel with such variables and the channels 0 to 4.
func some() api.Kernel { return kernelOf(someVars, 5, "skip") }

// stateOf returns a state with the clock 0 and the words 4 and 9 from the host.
func stateOf(store, root string) api.State {
	return api.State{Store: storeOf(store), Root: kproc(root), In: []int32{4, 9}}
}

// at returns a state with someStore.
func at(root string) api.State { return stateOf(someStore, root) }

// timed returns a state with someStore and a time.
func timed(time int32, root string) api.State {
	s := at(root)
	s.Time = time
	return s
}

// moveOf returns the move from a state that a text describes: its kind or its event, the Root after it and, if that is not as before, the
// store, as in "tau @ skip" and "2 5 @ par|.skip|.stop @ 5; 1 2".
func moveOf(s api.State, text string) api.Move {
	part := strings.Split(text, " @ ")
	m := api.Move{Kind: api.MvTau, Next: s}
	if part[0] != "tau" {
		e := words(part[0])
		m.Kind, m.Event = api.MvComm, api.Event{C: int(e[0]), V: e[1]}
		if m.Event.C == 0 {
			m.Next.In = s.In[1:]
		}
	}
	m.Next.Root = kproc(part[1])
	if len(part) > 2 {
		m.Next.Store = storeOf(part[2])
	}
	return m
}

func tickOf(s api.State) api.Move {
	m := api.Move{Kind: api.MvTick, Next: s}
	m.Next.Time++
	return m
}

// checkMoveList checks the moves of a state.
func checkMoveList(t *testing.T, k api.Kernel, s api.State, want []api.Move) {
	t.Helper()
	got := step.Moves(k, s)
	for i := range max(len(got), len(want)) {
		switch {
		case i >= len(got):
			t.Errorf("%s has no move %s", brief(s), brief(want[i]))
		case i >= len(want):
			t.Errorf("%s has the move %s", brief(s), brief(got[i]))
		case !equal(got[i], want[i]):
			t.Errorf("%s has the move %s, not %s", brief(s), brief(got[i]), brief(want[i]))
		}
	}
}

// checkMovesOf checks that a state of a kernel has the moves that texts describe, and MvTick, and that they lead to states of the kernel.
func checkMovesOf(t *testing.T, k api.Kernel, s api.State, texts ...string) {
	t.Helper()
	if !step.May(k, s) {
		t.Errorf("%s is no state", brief(s))
	}
	var want []api.Move
	for _, text := range texts {
		want = append(want, moveOf(s, text))
	}
	checkMoveList(t, k, s, append(want, tickOf(s)))
	for _, m := range step.Moves(k, s) {
		if !step.May(k, m.Next) {
			t.Errorf("%s has a move to %s, which is no state", brief(s), brief(m.Next))
		}
	}
}

func checkMoves(t *testing.T, s api.State, texts ...string) {
	t.Helper()
	checkMovesOf(t, some(), s, texts...)
}

// start returns the first state of a valid kernel.
func start(t *testing.T, k api.Kernel, in ...int32) api.State {
	t.Helper()
	s, e := step.Start(k, in)
	if e != api.OK {
		t.Fatalf("Start(%s): %v", brief(k), e)
	}
	return s
}

// after returns the state after the move with an index.
func after(t *testing.T, k api.Kernel, s api.State, move int) api.State {
	t.Helper()
	l := step.Moves(k, s)
	if len(l) <= move {
		t.Fatalf("%s has %d moves", brief(s), len(l))
	}
	return l[move].Next
}

func checkDone(t *testing.T, s api.State, want bool) {
	t.Helper()
	if step.Done(s) != want {
		t.Errorf("Done(%s) is not %t", brief(s), want)
	}
}

// P18.1, P18.2: the examples of the chapter.
func TestExamples(t *testing.T) {
	k := kernelOf("INT", 3, "par|.c2 ! INT 5|.seq|..c2 ? INT v0|..c1 ! INT v0")
	s := start(t, k)
	checkMovesOf(t, k, s, "2 5 @ par|.skip|.c1 ! INT v0 @ 5")
	checkDone(t, s, false)
	s = after(t, k, s, 0)
	checkMovesOf(t, k, s, "1 5 @ skip")
	checkDone(t, s, false)
	s = after(t, k, s, 0)
	checkMovesOf(t, k, s)
	checkDone(t, s, true)

	k.Root = kproc("while 1|.skip")
	checkMovesOf(t, k, start(t, k), "tau @ while 1|.skip")

	k.Root = kproc("alt")
	s = start(t, k)
	checkMovesOf(t, k, s, "tau @ wait")
	s = after(t, k, s, 0)
	checkMovesOf(t, k, s)
	checkDone(t, s, false)
}

// P18.1: the program of the document's examples, from its first state to its last one.
func TestProgram(t *testing.T) {
	k := kernelOf("INT", 2, "seq|.clear v0|.c0 ? INT v0|.c1 ! INT v0 + 1|.c0 ? INT v0|.c1 ! INT v0 + 1")
	s := start(t, k, 4, 9)
	rest := []string{"clear v0", "c0 ? INT v0", "c1 ! INT v0 + 1", "c0 ? INT v0", "c1 ! INT v0 + 1"}
	for i, move := range []string{"tau @ ROOT", "0 4 @ ROOT @ 4", "1 5 @ ROOT", "0 9 @ c1 ! INT v0 + 1 @ 9", "1 10 @ skip"} {
		left := "seq|." + strings.Join(rest[i+1:], "|.")
		checkMovesOf(t, k, s, strings.Replace(move, "ROOT", left, 1))
		s = after(t, k, s, 0)
	}
	checkDone(t, s, true)
	checkMovesOf(t, k, s)

	s = start(t, k, 2147483647)
	for range 2 {
		s = after(t, k, s, 0)
	}
	checkMovesOf(t, k, s, "tau @ seq|.stop|.c0 ? INT v0|.c1 ! INT v0 + 1")
	checkMovesOf(t, k, after(t, k, s, 0))
}
