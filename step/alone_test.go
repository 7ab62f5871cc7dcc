package step_test

import (
	"fmt"
	"slices"
	"strings"
	"testing"

	"transputer/api"
)

const (
	most  = 2147483647
	least = -2147483648
)

// The values without a value, and places without one, in someStore.
var (
	faults      = []string{"1 / 0", "v3[3]", "v3[-1]", "v3[v0]", "2147483647 + 1", "INT (BYTE 256)", "v3[v3[3]]", "- -2147483648"}
	boolFaults  = []string{"(1 / 0) = 1", "v5[2]", "BOOL v0", "NOT (BOOL 2)", "v2 AND v5[v0]", "(v0 = 6) OR (v3[3] = 1)"}
	placeFaults = []string{"v3[3]", "v3[-1]", "v3[v0]", "v3[1 / 0]", "v3[v3[3]]"}
)

// checkStops checks that a component does nothing but become a KpStop, with its surroundings as they are.
func checkStops(t *testing.T, roots ...string) {
	t.Helper()
	for _, root := range roots {
		checkMoves(t, at(root), "tau @ stop")
		inside := strings.ReplaceAll(root, "|", "|..")
		checkMoves(t, at("seq|.par|.."+inside+"|..stop|.clear v0"), "tau @ seq|.par|..stop|..stop|.clear v0")
	}
}

// P18.1: KpSkip and KpStop do nothing.
func TestNothing(t *testing.T) {
	checkMoves(t, at("skip"))
	checkMoves(t, at("stop"))
	checkMoves(t, at("seq|.stop|.v0 := 1"))
	checkMoves(t, at("par|.skip|.stop|.skip"))
	checkMoves(t, at("pri par|.skip|.stop"))
	checkMoves(t, at("seq|.seq|..par|...stop|...pri par|....skip|....stop|..skip|.skip"))
}

// P18.1: KpClear sets all elements of its variable to zero.
func TestClear(t *testing.T) {
	for v, after := range []string{"0; 200; 1; 10 20 30; 7 8; 0 1", "5; 0; 1; 10 20 30; 7 8; 0 1", "5; 200; 0; 10 20 30; 7 8; 0 1", "5; 200; 1; 0 0 0; 7 8; 0 1", "5; 200; 1; 10 20 30; 0 0; 0 1", "5; 200; 1; 10 20 30; 7 8; 0 0"} {
		checkMoves(t, at(fmt.Sprintf("clear v%d", v)), "tau @ skip @ "+after)
		checkMoves(t, at(fmt.Sprintf("seq|.clear v%d|.stop", v)), "tau @ stop @ "+after)
		checkMoves(t, stateOf(after, fmt.Sprintf("clear v%d", v)), "tau @ skip")
	}
	k := kernelOf("INT [64]INT", 2, "skip")
	full, zero := strings.Repeat(" 7", 64), strings.Repeat(" 0", 64)
	checkMovesOf(t, k, stateOf("3;"+full, "clear v1"), "tau @ skip @ 3;"+zero)
}

// P18.1: KpAssign works out all values, then all places, and then puts the values there from left to right.
func TestAssign(t *testing.T) {
	for assignment, after := range map[string]string{
		"v0 := 6":                                "6; 200; 1; 10 20 30; 7 8; 0 1",
		"v0 := v0 + v3[1]":                       "25; 200; 1; 10 20 30; 7 8; 0 1",
		"v1 := v4[1]":                            "5; 8; 1; 10 20 30; 7 8; 0 1",
		"v2 := v0 > 7":                           "5; 200; 0; 10 20 30; 7 8; 0 1",
		"v3[2] := -1":                            "5; 200; 1; 10 20 -1; 7 8; 0 1",
		"v3[v0 - 4] := v0":                       "5; 200; 1; 10 5 30; 7 8; 0 1",
		"v5[INT v5[0]] := v5[1]":                 "5; 200; 1; 10 20 30; 7 8; 1 1",
		"v0, v3[0] := v3[0], v0":                 "10; 200; 1; 5 20 30; 7 8; 0 1",
		"v3[0], v3[1], v3[2] := 3, v3[0], v3[1]": "5; 200; 1; 3 10 20; 7 8; 0 1",
		"v0, v0 := 1, 2":                         "2; 200; 1; 10 20 30; 7 8; 0 1",
		"v3[1], v3[v0 - 4], v3[1] := 1, 2, 3":    "5; 200; 1; 10 3 30; 7 8; 0 1",
		"v0, v3[v0 - 4] := 6, 7":                 "6; 200; 1; 10 7 30; 7 8; 0 1",
		"v3[v0 - 3], v0 := v0, v3[v0 - 3]":       "30; 200; 1; 10 20 5; 7 8; 0 1",
		"v0, v1, v2, v3[0], v3[1], v3[2], v4[0], v5[1] := 1, 2, 0, 4, 5, 6, 7, 0": "1; 2; 0; 4 5 6; 7 8; 0 0",
	} {
		checkMoves(t, at(assignment), "tau @ skip @ "+after)
		checkMoves(t, at("par|.stop|."+assignment), "tau @ par|.stop|.skip @ "+after)
	}
	// An index that an assignment before in the same list makes one, or makes none, does not count.
	checkMoves(t, stateOf("3; 0; 0; 0 0 0; 0 0; 0 0", "v0, v3[v0] := 0, 1"), "tau @ stop")
	checkMoves(t, stateOf("0; 0; 0; 0 0 0; 0 0; 0 0", "v0, v3[v0] := 3, 1"), "tau @ skip @ 3; 0; 0; 1 0 0; 0 0; 0 0")
}

// P18.1: an assignment with a fault in any value or place changes nothing.
func TestAssignFaults(t *testing.T) {
	for _, x := range faults {
		checkStops(t, "v0 := "+x, "v0, v1 := "+x+", 1", "v0, v1, v3[0] := 1, 2, "+x, "v0, v3[3] := 7, "+x)
	}
	for _, x := range boolFaults {
		checkStops(t, "v2 := "+x, "v0, v2 := 3, "+x)
	}
	for _, x := range placeFaults {
		checkStops(t, x+" := 1", "v0, "+x+" := 1, 2", x+", v0 := 1, 2", "v0, v1, "+x+" := v0, v1, 3")
	}
	checkStops(t, "v1 := BYTE ((INT v1) + 56)", "v2 := BOOL v3[0]")
}

// P18.1: KpTime puts the clock into its place.
func TestTime(t *testing.T) {
	for _, n := range []int32{0, 1, -1, 77, most, least} {
		checkMoves(t, timed(n, "time v0"), fmt.Sprintf("tau @ skip @ %d; 200; 1; 10 20 30; 7 8; 0 1", n))
		checkMoves(t, timed(n, "seq|.time v3[v0 - 4]|.stop"), fmt.Sprintf("tau @ stop @ 5; 200; 1; 10 %d 30; 7 8; 0 1", n))
	}
	for _, x := range placeFaults {
		checkStops(t, "time "+x)
	}
}

// times are pairs of a clock and a time, and whether the clock is after the time.
var times = []struct {
	clock, time int32
	after       bool
}{
	{0, 0, false}, {1, 0, true}, {0, 1, false}, {5, 4, true}, {5, 5, false}, {5, 6, false}, {-1, 0, false}, {0, -1, true}, {-5, -6, true}, {-5, -4, false},
	{most, most, false}, {most, most - 1, true}, {most - 1, most, false}, {least, most, true}, {most, least, false}, {least, least, false}, {least + 1, least, true}, {least, least + 1, false}, {least + 1, most, true},
	{most, 0, true}, {least, 0, false}, {0, least, false}, {0, least + 1, true}, {0, most, false}, {most, -1, false}, {most - 1, -1, true}, {-1, most, false}, {-2, most, true}, {-2, most - 1, false}, {-3, most - 1, true}, {1000, least + 1000, false}, {1000, least + 1001, true}, {1000, least + 999, false},
}

// P18.1: KpAfter, and a GuAfter of a KpWait, wait until the clock is after their time.
func TestAfter(t *testing.T) {
	for _, c := range times {
		var after, first []string
		if c.after {
			after, first = []string{"tau @ skip"}, []string{"tau @ seq|.stop|.skip"}
		}
		checkMoves(t, timed(c.clock, fmt.Sprintf("after %d", c.time)), after...)
		checkMoves(t, timed(c.clock, fmt.Sprintf("wait|.0 & skip|..skip|.1 & after %d|..seq|...stop|...skip", c.time)), first...)
		checkMoves(t, timed(c.clock, fmt.Sprintf("wait|.0 & after %d|..skip", c.time)))
		s := timed(c.clock, "after v0 + v3[0]")
		s.Store = storeOf(fmt.Sprintf("%d; 0; 0; 0 0 0; 0 0; 0 0", c.time))
		checkMoves(t, s, after...)
	}
	for _, x := range faults {
		checkStops(t, "after "+x)
	}
	// The clock goes on by MvTick alone.
	k, s := some(), timed(most-1, "after 2147483647")
	for range 2 {
		checkMoves(t, s)
		s = after(t, k, s, 0)
	}
	if s.Time != least {
		t.Error(s.Time)
	}
	checkMoves(t, s, "tau @ skip")
}

// P18.1: KpIf becomes the body of its first guard that is true.
func TestIf(t *testing.T) {
	checkMoves(t, at("if"), "tau @ stop")
	checkMoves(t, at("if|.0|..skip"), "tau @ stop")
	checkMoves(t, at("if|.0|..skip|.v0 = 6|..skip|.v5[0]|..skip"), "tau @ stop")
	checkMoves(t, at("if|.1|..skip"), "tau @ skip")
	checkMoves(t, at("if|.v0 = 5|..clear v0|.1|..clear v1"), "tau @ clear v0")
	checkMoves(t, at("if|.v0 = 4|..clear v0|.v2|..clear v1|.1|..clear v2"), "tau @ clear v1")
	checkMoves(t, at("if|.0|..clear v0|.0|..clear v1|.v5[1]|..seq|...skip|...par|....skip|....stop"), "tau @ par|.skip|.stop")
	checkMoves(t, at("seq|.if|..0|...skip|..1|...seq|....stop|....clear v0|.skip"), "tau @ seq|.seq|..stop|..clear v0|.skip")
	for _, x := range boolFaults {
		checkStops(t, "if|."+x+"|..skip", "if|.0|..skip|."+x+"|..skip|.1|..skip")
		checkMoves(t, at("if|.1|..clear v0|."+x+"|..skip"), "tau @ clear v0")
	}
	guards := slices.Repeat([]string{".0|..skip"}, 15)
	checkMoves(t, at("if|"+strings.Join(append(guards, ".1|..clear v3"), "|")), "tau @ clear v3")
}

// P18.1: KpWhile becomes its body followed by itself, or ends.
func TestWhile(t *testing.T) {
	checkMoves(t, at("while 0|.clear v0"), "tau @ skip")
	checkMoves(t, at("while v0 = 6|.clear v0"), "tau @ skip")
	checkMoves(t, at("while v0 = 5|.clear v0"), "tau @ seq|.clear v0|.while v0 = 5|..clear v0")
	checkMoves(t, at("while v2|.skip"), "tau @ while v2|.skip")
	checkMoves(t, at("while v2|.par|..seq|..skip"), "tau @ while v2|.par|..seq|..skip")
	checkMoves(t, at("while v5[1]|.seq|..skip|..stop|..skip"), "tau @ seq|.seq|..stop|..skip|.while v5[1]|..seq|...skip|...stop|...skip")
	checkMoves(t, at("seq|.while 1|..par|...skip|...stop|.clear v0"), "tau @ seq|.seq|..par|...skip|...stop|..while 1|...par|....skip|....stop|.clear v0")
	checkMoves(t, at("seq|.while 1|..while 0|...stop|.skip"), "tau @ seq|.seq|..while 0|...stop|..while 1|...while 0|....stop|.skip")
	for _, x := range boolFaults {
		checkStops(t, "while "+x+"|.skip")
	}
	k := kernelOf("INT", 2, "seq|.while v0 < 3|..v0 := v0 + 1|.c1 ! INT v0")
	s := start(t, k)
	for range 3 {
		for range 2 {
			s = after(t, k, s, 0)
		}
	}
	checkMovesOf(t, k, s, "tau @ c1 ! INT v0")
	checkMovesOf(t, k, after(t, k, s, 0), "1 3 @ skip")
}

// P18.1: KpAlt and KpPriAlt work out the conditions and times of all guards, and then wait.
func TestAlt(t *testing.T) {
	for _, alt := range []string{"alt", "pri alt"} {
		checkMoves(t, at(alt), "tau @ wait")
		checkMoves(t, at(alt+"|.1 & skip|..seq|...skip"), "tau @ wait|.1 & skip|..seq|...skip")
		checkMoves(t, at("par|.stop|."+alt+"|..v0 = 6 & skip|...stop|.clear v0"), "tau @ par|.stop|.wait|..0 & skip|...stop|.clear v0", "tau @ par|.stop|."+alt+"|..v0 = 6 & skip|...stop|.skip @ 0; 200; 1; 10 20 30; 7 8; 0 1")
		checkMoves(t, at(alt+"|.v0 = 5 & after v0 * v3[1]|..clear v0|.v0 = 4 & after - v0|..clear v1|.v2 & c2 ? BYTE v4[v0]|..clear v2|.v5[0] & c0 ? INT v3[v0 - 4]|..while v0 = 5|...skip"),
			"tau @ wait|.1 & after 100|..clear v0|.0 & after -5|..clear v1|.1 & c2 ? BYTE v4[v0]|..clear v2|.0 & c0 ? INT v3[v0 - 4]|..while v0 = 5|...skip")
		for _, x := range boolFaults {
			checkStops(t, alt+"|."+x+" & skip|..skip", alt+"|.1 & skip|..skip|.0 & c0 ? INT v0|..stop|."+x+" & c2 ? INT v0|..skip|.1 & skip|..skip", alt+"|."+x+" & after 5|..skip")
		}
		for _, x := range faults {
			checkStops(t, alt+"|.1 & after "+x+"|..skip", alt+"|.0 & after "+x+"|..skip", alt+"|.1 & skip|..skip|.1 & after 1|..skip|.v0 = 6 & after "+x+"|..skip|.0 & skip|..skip")
		}
		for _, x := range placeFaults {
			checkMoves(t, at(alt+"|.1 & c0 ? INT "+x+"|..skip|.0 & c3 ? INT "+x+"|..stop"), "tau @ wait|.1 & c0 ? INT "+x+"|..skip|.0 & c3 ? INT "+x+"|..stop")
		}
	}
}

// P18.1: what a KpWait does, by the guards whose condition is true, in their order.
func TestWait(t *testing.T) {
	checkMoves(t, at("wait"))
	checkMoves(t, at("wait|.0 & skip|..skip|.0 & after -5|..skip|.0 & c0 ? INT v0|..skip|.0 & c0 ? INT v3[3]|..skip"))
	checkMoves(t, at("wait|.1 & skip|..clear v0"), "tau @ clear v0")
	checkMoves(t, at("wait|.1 & skip|..clear v0|.0 & skip|..clear v1|.1 & skip|..seq|...skip|...clear v2|.1 & skip|..clear v0"), "tau @ clear v0", "tau @ clear v2", "tau @ clear v0")
	checkMoves(t, at("wait|.1 & c0 ? INT v0|..clear v1"), "0 4 @ clear v1 @ 4; 200; 1; 10 20 30; 7 8; 0 1")
	// Moves of all kinds, in the order of the guards; the inputs from a channel inside stand with the outputs.
	checkMoves(t, at("wait|.1 & c0 ? INT v0|..clear v0|.1 & skip|..clear v1|.1 & c2 ? INT v0|..clear v2|.1 & after -1|..clear v3|.1 & after 0|..clear v4|.1 & c0 ? INT v3[2]|..clear v5|.1 & skip|..skip"),
		"0 4 @ clear v0 @ 4; 200; 1; 10 20 30; 7 8; 0 1", "tau @ clear v1", "tau @ clear v3", "0 4 @ clear v5 @ 5; 200; 1; 10 20 4; 7 8; 0 1", "tau @ skip")
	// The place of an input is not worked out before.
	for _, x := range placeFaults {
		for _, c := range []string{"c0", "c2"} {
			in := ".1 & " + c + " ? INT " + x + "|..skip"
			checkStops(t, "wait|"+in)
			checkMoves(t, at("wait|.1 & skip|..clear v0|"+in+"|.1 & after -9|..clear v1|"+in), "tau @ clear v0", "tau @ stop", "tau @ clear v1", "tau @ stop")
		}
	}
	s := timed(7, "par|.wait|..1 & after 6|...stop|..1 & after 7|...skip|.clear v1")
	checkMoves(t, s, "tau @ par|.stop|.clear v1", "tau @ par|.wait|..1 & after 6|...stop|..1 & after 7|...skip|.skip @ 5; 0; 1; 10 20 30; 7 8; 0 1")
}

// P18.1: MvTick adds one to the clock, modulo 2^32, and leaves all else as it is.
func TestTick(t *testing.T) {
	for clock, next := range map[int32]int32{0: 1, 1: 2, -1: 0, most - 1: most, most: least, least: least + 1, 255: 256} {
		for _, root := range []string{"skip", "stop", "seq|.stop|.seq|..skip", "par|.skip|.wait|..1 & c2 ? BYTE v4[1]|...skip|..0 & after 3|...stop"} {
			s := timed(clock, root)
			want := s
			want.Time = next
			checkMoveList(t, some(), s, []api.Move{{Kind: api.MvTick, Next: want}})
		}
	}
}
