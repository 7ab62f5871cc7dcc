/- The reference: the fields of each kind. -/
import Derived.Test.YtblckajejohlbaaDoorM05
set_option linter.unusedVariables false
set_option linter.unusedSimpArgs false
set_option linter.unusedVariables false
set_option linter.unusedSimpArgs false
namespace Go.Proofs.YtblckajejohlbaaDoor
open Go Go.RowKit L8 L22 L17

def prmB (k : Nat) : Bool := decide (k = 1) || (decide (k = 2) || decide (k = 3))
theorem RPrim_any (k : Nat) (w : World) : Calls Tryd.prog 95 #[.int .u8 (k : Int)] w fun e w' => e = .returned (.bool (prmB k)) ∧ w = w' := by
  have q1 : ((k : Int) == 1) = decide (k = 1) := nat_eqK k 1
  have q2 : ((k : Int) == 2) = decide (k = 2) := nat_eqK k 2
  have q3 : ((k : Int) == 3) = decide (k = 3) := nat_eqK k 3
  unfold prmB
  generalize decide (k = 1) = b1 at *
  generalize decide (k = 2) = b2 at *
  generalize decide (k = 3) = b3 at *
  go_enter Tryd.func95, Tryd.ntmps95
  cases b1 <;> cases b2 <;> cases b3 <;> (go_wp2; go_ret; exact ⟨rfl, rfl⟩)
theorem bel_set {w W : World} (h : Below w.heap.size w W) (j : Nat) (v : Value) : Below w.heap.size w (W.setCell ⟨w.heap.size + 1, j, none⟩ v) := bset h (by omega) v
set_option maxRecDepth 100000 in
set_option maxHeartbeats 4000000 in
theorem ROwn_1 (e : Kx) (hok : OKk e) (A : Option Addr) (n c : Nat) (hn : e.l.length = n) (w : World) (hk : e.k = 1) : Calls Tryd.prog 71 #[kxV e A n c] w fun en w' => en = .returned (.bool (shX e)) ∧ Below w.heap.size w w' := by
  have HB := Lib.hid (bal (b0 w) (.cells (kxC e A n c) 45))
  have HP := box6 (boxS_new w 45 (kxC e A n c))
  have k0 : (0 : Int) ≤ (e.k : Int) := by omega
  have k255 : (e.k : Int) ≤ 255 := by have := hok.1; omega
  have CP := Lib.hid fun W => RPrim_any e.t W
  subst hn
  have q1 : ((e.k : Int) == 1) = true := by rw [hk]; rfl
  have sx1 : (e.n == e.n) = true := by simp
  have sx2 : (e.v == e.v) = true := by simp
  have sx3 : ((e.o : Int) == (e.o : Int)) = true := by simp
  have sx4 : ((e.t : Int) == (e.t : Int)) = true := by simp
  obtain ⟨b0, d0⟩ : ∃ b, decide (e.l.length = 0) = b := ⟨_, rfl⟩
  have c0 : ((e.l.length : Int) == 0) = b0 := (nat_eqK _ 0 : ((e.l.length : Int) == 0) = decide (e.l.length = 0)).trans d0
  obtain ⟨b1, d1⟩ : ∃ b, decide (e.o = 0) = b := ⟨_, rfl⟩
  have c1 : ((e.o : Int) == 0) = b1 := (nat_eqK _ 0 : ((e.o : Int) == 0) = decide (e.o = 0)).trans d1
  obtain ⟨b2, d2⟩ : ∃ b, decide (e.t = 0) = b := ⟨_, rfl⟩
  have c2 : ((e.t : Int) == 0) = b2 := (nat_eqK _ 0 : ((e.t : Int) == 0) = decide (e.t = 0)).trans d2
  obtain ⟨b3, d3⟩ : ∃ b, decide (e.v = 0) = b := ⟨_, rfl⟩
  have c3 : (e.v == 0) = b3 := (int_eqK _ 0 : (e.v == 0) = decide (e.v = 0)).trans d3
  have hs : shX e = (b0 && (b1 && (b2 && (b3)))) := by
    rw [← d0, ← d1, ← d2, ← d3]
    unfold shX; rw [if_pos hk]
    rw [Bool.eq_iff_iff]
    simp only [Bool.and_eq_true, Bool.or_eq_true, decide_eq_true_eq]
    omega
  rw [hs]
  clear hs hk hok d0 d1 d2 d3
  dsimp only [kxV, kxC] at *
  obtain ⟨p0, p1, p2, p3, p4, p5⟩ := HP
  cases b0 with
  | false =>
    clear c1 c2 c3
    try simp only [Bool.false_and, Bool.true_and, Bool.and_true, Bool.and_false]
    go_enter Tryd.func71, Tryd.ntmps71
    go_wp2
    go_ret
    exact ⟨rfl, by first | exact HB.out | exact bal HB.out _ | exact bel_set (bal HB.out _) _ _⟩
  | true =>
    cases b1 with
    | false =>
      clear c2 c3
      try simp only [Bool.false_and, Bool.true_and, Bool.and_true, Bool.and_false]
      go_enter Tryd.func71, Tryd.ntmps71
      go_wp2
      go_ret
      exact ⟨rfl, by first | exact HB.out | exact bal HB.out _ | exact bel_set (bal HB.out _) _ _⟩
    | true =>
      cases b2 with
      | false =>
        clear c3
        try simp only [Bool.false_and, Bool.true_and, Bool.and_true, Bool.and_false]
        go_enter Tryd.func71, Tryd.ntmps71
        go_wp2
        go_ret
        exact ⟨rfl, by first | exact HB.out | exact bal HB.out _ | exact bel_set (bal HB.out _) _ _⟩
      | true =>
        cases b3 with
        | false =>
          try simp only [Bool.false_and, Bool.true_and, Bool.and_true, Bool.and_false]
          go_enter Tryd.func71, Tryd.ntmps71
          go_wp2
          go_ret
          exact ⟨rfl, by first | exact HB.out | exact bal HB.out _ | exact bel_set (bal HB.out _) _ _⟩
        | true =>
          try simp only [Bool.false_and, Bool.true_and, Bool.and_true, Bool.and_false]
          go_enter Tryd.func71, Tryd.ntmps71
          go_wp2
          go_ret
          exact ⟨rfl, by first | exact HB.out | exact bal HB.out _ | exact bel_set (bal HB.out _) _ _⟩
set_option maxRecDepth 100000 in
set_option maxHeartbeats 4000000 in
theorem ROwn_2 (e : Kx) (hok : OKk e) (A : Option Addr) (n c : Nat) (hn : e.l.length = n) (w : World) (hk : e.k = 2) : Calls Tryd.prog 71 #[kxV e A n c] w fun en w' => en = .returned (.bool (shX e)) ∧ Below w.heap.size w w' := by
  have HB := Lib.hid (bal (b0 w) (.cells (kxC e A n c) 45))
  have HP := box6 (boxS_new w 45 (kxC e A n c))
  have k0 : (0 : Int) ≤ (e.k : Int) := by omega
  have k255 : (e.k : Int) ≤ 255 := by have := hok.1; omega
  have CP := Lib.hid fun W => RPrim_any e.t W
  subst hn
  have q1 : ((e.k : Int) == 1) = false := by rw [hk]; rfl
  have q2 : ((e.k : Int) == 2) = true := by rw [hk]; rfl
  have sx1 : (e.n == e.n) = true := by simp
  have sx2 : (e.v == e.v) = true := by simp
  have sx3 : ((e.o : Int) == (e.o : Int)) = true := by simp
  have sx4 : ((e.t : Int) == (e.t : Int)) = true := by simp
  obtain ⟨b0, c0⟩ : ∃ b, decide (0 ≤ e.v) = b := ⟨_, rfl⟩
  obtain ⟨b1, c1⟩ : ∃ b, decide (e.v < 256) = b := ⟨_, rfl⟩
  obtain ⟨b2, d2⟩ : ∃ b, decide (e.l.length = 0) = b := ⟨_, rfl⟩
  have c2 : ((e.l.length : Int) == 0) = b2 := (nat_eqK _ 0 : ((e.l.length : Int) == 0) = decide (e.l.length = 0)).trans d2
  obtain ⟨b3, d3⟩ : ∃ b, decide (e.o = 0) = b := ⟨_, rfl⟩
  have c3 : ((e.o : Int) == 0) = b3 := (nat_eqK _ 0 : ((e.o : Int) == 0) = decide (e.o = 0)).trans d3
  obtain ⟨b4, d4⟩ : ∃ b, decide (e.t = 0) = b := ⟨_, rfl⟩
  have c4 : ((e.t : Int) == 0) = b4 := (nat_eqK _ 0 : ((e.t : Int) == 0) = decide (e.t = 0)).trans d4
  obtain ⟨b5, d5⟩ : ∃ b, decide (e.n = 0) = b := ⟨_, rfl⟩
  have c5 : (e.n == 0) = b5 := (int_eqK _ 0 : (e.n == 0) = decide (e.n = 0)).trans d5
  have hs : shX e = (b0 && (b1 && (b2 && (b3 && (b4 && (b5)))))) := by
    rw [← c0, ← c1, ← d2, ← d3, ← d4, ← d5]
    unfold shX; rw [if_neg (by omega)]; rw [if_pos hk]
    rw [Bool.eq_iff_iff]
    simp only [Bool.and_eq_true, Bool.or_eq_true, decide_eq_true_eq]
    omega
  rw [hs]
  clear hs hk hok d2 d3 d4 d5
  dsimp only [kxV, kxC] at *
  obtain ⟨p0, p1, p2, p3, p4, p5⟩ := HP
  cases b0 with
  | false =>
    clear c1 c2 c3 c4 c5
    try simp only [Bool.false_and, Bool.true_and, Bool.and_true, Bool.and_false]
    go_enter Tryd.func71, Tryd.ntmps71
    go_wp2
    go_ret
    exact ⟨rfl, by first | exact HB.out | exact bal HB.out _ | exact bel_set (bal HB.out _) _ _⟩
  | true =>
    cases b1 with
    | false =>
      clear c2 c3 c4 c5
      try simp only [Bool.false_and, Bool.true_and, Bool.and_true, Bool.and_false]
      go_enter Tryd.func71, Tryd.ntmps71
      go_wp2
      go_ret
      exact ⟨rfl, by first | exact HB.out | exact bal HB.out _ | exact bel_set (bal HB.out _) _ _⟩
    | true =>
      cases b2 with
      | false =>
        clear c3 c4 c5
        try simp only [Bool.false_and, Bool.true_and, Bool.and_true, Bool.and_false]
        go_enter Tryd.func71, Tryd.ntmps71
        go_wp2
        go_ret
        exact ⟨rfl, by first | exact HB.out | exact bal HB.out _ | exact bel_set (bal HB.out _) _ _⟩
      | true =>
        cases b3 with
        | false =>
          clear c4 c5
          try simp only [Bool.false_and, Bool.true_and, Bool.and_true, Bool.and_false]
          go_enter Tryd.func71, Tryd.ntmps71
          go_wp2
          go_ret
          exact ⟨rfl, by first | exact HB.out | exact bal HB.out _ | exact bel_set (bal HB.out _) _ _⟩
        | true =>
          cases b4 with
          | false =>
            clear c5
            try simp only [Bool.false_and, Bool.true_and, Bool.and_true, Bool.and_false]
            go_enter Tryd.func71, Tryd.ntmps71
            go_wp2
            go_ret
            exact ⟨rfl, by first | exact HB.out | exact bal HB.out _ | exact bel_set (bal HB.out _) _ _⟩
          | true =>
            cases b5 with
            | false =>
              try simp only [Bool.false_and, Bool.true_and, Bool.and_true, Bool.and_false]
              go_enter Tryd.func71, Tryd.ntmps71
              go_wp2
              go_ret
              exact ⟨rfl, by first | exact HB.out | exact bal HB.out _ | exact bel_set (bal HB.out _) _ _⟩
            | true =>
              try simp only [Bool.false_and, Bool.true_and, Bool.and_true, Bool.and_false]
              go_enter Tryd.func71, Tryd.ntmps71
              go_wp2
              go_ret
              exact ⟨rfl, by first | exact HB.out | exact bal HB.out _ | exact bel_set (bal HB.out _) _ _⟩
set_option maxRecDepth 100000 in
set_option maxHeartbeats 4000000 in
theorem ROwn_3 (e : Kx) (hok : OKk e) (A : Option Addr) (n c : Nat) (hn : e.l.length = n) (w : World) (hk : e.k = 3) : Calls Tryd.prog 71 #[kxV e A n c] w fun en w' => en = .returned (.bool (shX e)) ∧ Below w.heap.size w w' := by
  have HB := Lib.hid (bal (b0 w) (.cells (kxC e A n c) 45))
  have HP := box6 (boxS_new w 45 (kxC e A n c))
  have k0 : (0 : Int) ≤ (e.k : Int) := by omega
  have k255 : (e.k : Int) ≤ 255 := by have := hok.1; omega
  have CP := Lib.hid fun W => RPrim_any e.t W
  subst hn
  have q1 : ((e.k : Int) == 1) = false := by rw [hk]; rfl
  have q2 : ((e.k : Int) == 2) = false := by rw [hk]; rfl
  have q3 : ((e.k : Int) == 3) = true := by rw [hk]; rfl
  have sx1 : (e.n == e.n) = true := by simp
  have sx2 : (e.v == e.v) = true := by simp
  have sx3 : ((e.o : Int) == (e.o : Int)) = true := by simp
  have sx4 : ((e.t : Int) == (e.t : Int)) = true := by simp
  obtain ⟨b0, c0⟩ : ∃ b, decide (0 ≤ e.v) = b := ⟨_, rfl⟩
  obtain ⟨b1, c1⟩ : ∃ b, decide (e.v < 256) = b := ⟨_, rfl⟩
  obtain ⟨b2, d2⟩ : ∃ b, decide (e.l.length = 1) = b := ⟨_, rfl⟩
  have c2 : ((e.l.length : Int) == 1) = b2 := (nat_eqK _ 1 : ((e.l.length : Int) == 1) = decide (e.l.length = 1)).trans d2
  obtain ⟨b3, d3⟩ : ∃ b, decide (e.o = 0) = b := ⟨_, rfl⟩
  have c3 : ((e.o : Int) == 0) = b3 := (nat_eqK _ 0 : ((e.o : Int) == 0) = decide (e.o = 0)).trans d3
  obtain ⟨b4, d4⟩ : ∃ b, decide (e.t = 0) = b := ⟨_, rfl⟩
  have c4 : ((e.t : Int) == 0) = b4 := (nat_eqK _ 0 : ((e.t : Int) == 0) = decide (e.t = 0)).trans d4
  obtain ⟨b5, d5⟩ : ∃ b, decide (e.n = 0) = b := ⟨_, rfl⟩
  have c5 : (e.n == 0) = b5 := (int_eqK _ 0 : (e.n == 0) = decide (e.n = 0)).trans d5
  have hs : shX e = (b0 && (b1 && (b2 && (b3 && (b4 && (b5)))))) := by
    rw [← c0, ← c1, ← d2, ← d3, ← d4, ← d5]
    unfold shX; rw [if_neg (by omega)]; rw [if_neg (by omega)]; rw [if_pos hk]
    rw [Bool.eq_iff_iff]
    simp only [Bool.and_eq_true, Bool.or_eq_true, decide_eq_true_eq]
    omega
  rw [hs]
  clear hs hk hok d2 d3 d4 d5
  dsimp only [kxV, kxC] at *
  obtain ⟨p0, p1, p2, p3, p4, p5⟩ := HP
  cases b0 with
  | false =>
    clear c1 c2 c3 c4 c5
    try simp only [Bool.false_and, Bool.true_and, Bool.and_true, Bool.and_false]
    go_enter Tryd.func71, Tryd.ntmps71
    go_wp2
    go_ret
    exact ⟨rfl, by first | exact HB.out | exact bal HB.out _ | exact bel_set (bal HB.out _) _ _⟩
  | true =>
    cases b1 with
    | false =>
      clear c2 c3 c4 c5
      try simp only [Bool.false_and, Bool.true_and, Bool.and_true, Bool.and_false]
      go_enter Tryd.func71, Tryd.ntmps71
      go_wp2
      go_ret
      exact ⟨rfl, by first | exact HB.out | exact bal HB.out _ | exact bel_set (bal HB.out _) _ _⟩
    | true =>
      cases b2 with
      | false =>
        clear c3 c4 c5
        try simp only [Bool.false_and, Bool.true_and, Bool.and_true, Bool.and_false]
        go_enter Tryd.func71, Tryd.ntmps71
        go_wp2
        go_ret
        exact ⟨rfl, by first | exact HB.out | exact bal HB.out _ | exact bel_set (bal HB.out _) _ _⟩
      | true =>
        cases b3 with
        | false =>
          clear c4 c5
          try simp only [Bool.false_and, Bool.true_and, Bool.and_true, Bool.and_false]
          go_enter Tryd.func71, Tryd.ntmps71
          go_wp2
          go_ret
          exact ⟨rfl, by first | exact HB.out | exact bal HB.out _ | exact bel_set (bal HB.out _) _ _⟩
        | true =>
          cases b4 with
          | false =>
            clear c5
            try simp only [Bool.false_and, Bool.true_and, Bool.and_true, Bool.and_false]
            go_enter Tryd.func71, Tryd.ntmps71
            go_wp2
            go_ret
            exact ⟨rfl, by first | exact HB.out | exact bal HB.out _ | exact bel_set (bal HB.out _) _ _⟩
          | true =>
            cases b5 with
            | false =>
              try simp only [Bool.false_and, Bool.true_and, Bool.and_true, Bool.and_false]
              go_enter Tryd.func71, Tryd.ntmps71
              go_wp2
              go_ret
              exact ⟨rfl, by first | exact HB.out | exact bal HB.out _ | exact bel_set (bal HB.out _) _ _⟩
            | true =>
              try simp only [Bool.false_and, Bool.true_and, Bool.and_true, Bool.and_false]
              go_enter Tryd.func71, Tryd.ntmps71
              go_wp2
              go_ret
              exact ⟨rfl, by first | exact HB.out | exact bal HB.out _ | exact bel_set (bal HB.out _) _ _⟩
set_option maxRecDepth 100000 in
set_option maxHeartbeats 4000000 in
theorem ROwn_4 (e : Kx) (hok : OKk e) (A : Option Addr) (n c : Nat) (hn : e.l.length = n) (w : World) (hk : e.k = 4) : Calls Tryd.prog 71 #[kxV e A n c] w fun en w' => en = .returned (.bool (shX e)) ∧ Below w.heap.size w w' := by
  have HB := Lib.hid (bal (b0 w) (.cells (kxC e A n c) 45))
  have HP := box6 (boxS_new w 45 (kxC e A n c))
  have k0 : (0 : Int) ≤ (e.k : Int) := by omega
  have k255 : (e.k : Int) ≤ 255 := by have := hok.1; omega
  have CP := Lib.hid fun W => RPrim_any e.t W
  subst hn
  have q1 : ((e.k : Int) == 1) = false := by rw [hk]; rfl
  have q2 : ((e.k : Int) == 2) = false := by rw [hk]; rfl
  have q3 : ((e.k : Int) == 3) = false := by rw [hk]; rfl
  have q4 : ((e.k : Int) == 4) = true := by rw [hk]; rfl
  have sx1 : (e.n == e.n) = true := by simp
  have sx2 : (e.v == e.v) = true := by simp
  have sx3 : ((e.o : Int) == (e.o : Int)) = true := by simp
  have sx4 : ((e.t : Int) == (e.t : Int)) = true := by simp
  obtain ⟨b0, d0⟩ : ∃ b, decide (23 ≤ e.o) = b := ⟨_, rfl⟩
  have c0 : decide ((23 : Int) ≤ (e.o : Int)) = b0 := (decide_eq_decide.2 (by omega) : decide ((23 : Int) ≤ (e.o : Int)) = decide (23 ≤ e.o)).trans d0
  obtain ⟨b1, d1⟩ : ∃ b, decide (e.o ≤ 26) = b := ⟨_, rfl⟩
  have c1 : decide ((e.o : Int) ≤ (26 : Int)) = b1 := (decide_eq_decide.2 (by omega) : decide ((e.o : Int) ≤ (26 : Int)) = decide (e.o ≤ 26)).trans d1
  obtain ⟨b2, d2⟩ : ∃ b, decide (e.l.length = 1) = b := ⟨_, rfl⟩
  have c2 : ((e.l.length : Int) == 1) = b2 := (nat_eqK _ 1 : ((e.l.length : Int) == 1) = decide (e.l.length = 1)).trans d2
  obtain ⟨b3, d3⟩ : ∃ b, decide (e.t = 0) = b := ⟨_, rfl⟩
  have c3 : ((e.t : Int) == 0) = b3 := (nat_eqK _ 0 : ((e.t : Int) == 0) = decide (e.t = 0)).trans d3
  obtain ⟨b4, d4⟩ : ∃ b, decide (e.n = 0) = b := ⟨_, rfl⟩
  have c4 : (e.n == 0) = b4 := (int_eqK _ 0 : (e.n == 0) = decide (e.n = 0)).trans d4
  obtain ⟨b5, d5⟩ : ∃ b, decide (e.v = 0) = b := ⟨_, rfl⟩
  have c5 : (e.v == 0) = b5 := (int_eqK _ 0 : (e.v == 0) = decide (e.v = 0)).trans d5
  have hs : shX e = (b0 && (b1 && (b2 && (b3 && (b4 && (b5)))))) := by
    rw [← d0, ← d1, ← d2, ← d3, ← d4, ← d5]
    unfold shX; rw [if_neg (by omega)]; rw [if_neg (by omega)]; rw [if_neg (by omega)]; rw [if_pos hk]
    rw [Bool.eq_iff_iff]
    simp only [Bool.and_eq_true, Bool.or_eq_true, decide_eq_true_eq]
    omega
  rw [hs]
  clear hs hk hok d0 d1 d2 d3 d4 d5
  dsimp only [kxV, kxC] at *
  obtain ⟨p0, p1, p2, p3, p4, p5⟩ := HP
  cases b0 with
  | false =>
    clear c1 c2 c3 c4 c5
    try simp only [Bool.false_and, Bool.true_and, Bool.and_true, Bool.and_false]
    go_enter Tryd.func71, Tryd.ntmps71
    go_wp2
    go_ret
    exact ⟨rfl, by first | exact HB.out | exact bal HB.out _ | exact bel_set (bal HB.out _) _ _⟩
  | true =>
    cases b1 with
    | false =>
      clear c2 c3 c4 c5
      try simp only [Bool.false_and, Bool.true_and, Bool.and_true, Bool.and_false]
      go_enter Tryd.func71, Tryd.ntmps71
      go_wp2
      go_ret
      exact ⟨rfl, by first | exact HB.out | exact bal HB.out _ | exact bel_set (bal HB.out _) _ _⟩
    | true =>
      cases b2 with
      | false =>
        clear c3 c4 c5
        try simp only [Bool.false_and, Bool.true_and, Bool.and_true, Bool.and_false]
        go_enter Tryd.func71, Tryd.ntmps71
        go_wp2
        go_ret
        exact ⟨rfl, by first | exact HB.out | exact bal HB.out _ | exact bel_set (bal HB.out _) _ _⟩
      | true =>
        cases b3 with
        | false =>
          clear c4 c5
          try simp only [Bool.false_and, Bool.true_and, Bool.and_true, Bool.and_false]
          go_enter Tryd.func71, Tryd.ntmps71
          go_wp2
          go_ret
          exact ⟨rfl, by first | exact HB.out | exact bal HB.out _ | exact bel_set (bal HB.out _) _ _⟩
        | true =>
          cases b4 with
          | false =>
            clear c5
            try simp only [Bool.false_and, Bool.true_and, Bool.and_true, Bool.and_false]
            go_enter Tryd.func71, Tryd.ntmps71
            go_wp2
            go_ret
            exact ⟨rfl, by first | exact HB.out | exact bal HB.out _ | exact bel_set (bal HB.out _) _ _⟩
          | true =>
            cases b5 with
            | false =>
              try simp only [Bool.false_and, Bool.true_and, Bool.and_true, Bool.and_false]
              go_enter Tryd.func71, Tryd.ntmps71
              go_wp2
              go_ret
              exact ⟨rfl, by first | exact HB.out | exact bal HB.out _ | exact bel_set (bal HB.out _) _ _⟩
            | true =>
              try simp only [Bool.false_and, Bool.true_and, Bool.and_true, Bool.and_false]
              go_enter Tryd.func71, Tryd.ntmps71
              go_wp2
              go_ret
              exact ⟨rfl, by first | exact HB.out | exact bal HB.out _ | exact bel_set (bal HB.out _) _ _⟩
set_option maxRecDepth 100000 in
set_option maxHeartbeats 4000000 in
theorem ROwn_5 (e : Kx) (hok : OKk e) (A : Option Addr) (n c : Nat) (hn : e.l.length = n) (w : World) (hk : e.k = 5) : Calls Tryd.prog 71 #[kxV e A n c] w fun en w' => en = .returned (.bool (shX e)) ∧ Below w.heap.size w w' := by
  have HB := Lib.hid (bal (b0 w) (.cells (kxC e A n c) 45))
  have HP := box6 (boxS_new w 45 (kxC e A n c))
  have k0 : (0 : Int) ≤ (e.k : Int) := by omega
  have k255 : (e.k : Int) ≤ 255 := by have := hok.1; omega
  have CP := Lib.hid fun W => RPrim_any e.t W
  subst hn
  have q1 : ((e.k : Int) == 1) = false := by rw [hk]; rfl
  have q2 : ((e.k : Int) == 2) = false := by rw [hk]; rfl
  have q3 : ((e.k : Int) == 3) = false := by rw [hk]; rfl
  have q4 : ((e.k : Int) == 4) = false := by rw [hk]; rfl
  have q5 : ((e.k : Int) == 5) = true := by rw [hk]; rfl
  have sx1 : (e.n == e.n) = true := by simp
  have sx2 : (e.v == e.v) = true := by simp
  have sx3 : ((e.o : Int) == (e.o : Int)) = true := by simp
  have sx4 : ((e.t : Int) == (e.t : Int)) = true := by simp
  obtain ⟨b0, d0⟩ : ∃ b, decide (1 ≤ e.o) = b := ⟨_, rfl⟩
  have c0 : decide ((1 : Int) ≤ (e.o : Int)) = b0 := (decide_eq_decide.2 (by omega) : decide ((1 : Int) ≤ (e.o : Int)) = decide (1 ≤ e.o)).trans d0
  obtain ⟨b1, d1⟩ : ∃ b, decide (e.o ≤ 22) = b := ⟨_, rfl⟩
  have c1 : decide ((e.o : Int) ≤ (22 : Int)) = b1 := (decide_eq_decide.2 (by omega) : decide ((e.o : Int) ≤ (22 : Int)) = decide (e.o ≤ 22)).trans d1
  obtain ⟨b2, d2⟩ : ∃ b, decide (e.l.length = 2) = b := ⟨_, rfl⟩
  have c2 : ((e.l.length : Int) == 2) = b2 := (nat_eqK _ 2 : ((e.l.length : Int) == 2) = decide (e.l.length = 2)).trans d2
  obtain ⟨b3, d3⟩ : ∃ b, decide (e.t = 0) = b := ⟨_, rfl⟩
  have c3 : ((e.t : Int) == 0) = b3 := (nat_eqK _ 0 : ((e.t : Int) == 0) = decide (e.t = 0)).trans d3
  obtain ⟨b4, d4⟩ : ∃ b, decide (e.n = 0) = b := ⟨_, rfl⟩
  have c4 : (e.n == 0) = b4 := (int_eqK _ 0 : (e.n == 0) = decide (e.n = 0)).trans d4
  obtain ⟨b5, d5⟩ : ∃ b, decide (e.v = 0) = b := ⟨_, rfl⟩
  have c5 : (e.v == 0) = b5 := (int_eqK _ 0 : (e.v == 0) = decide (e.v = 0)).trans d5
  have hs : shX e = (b0 && (b1 && (b2 && (b3 && (b4 && (b5)))))) := by
    rw [← d0, ← d1, ← d2, ← d3, ← d4, ← d5]
    unfold shX; rw [if_neg (by omega)]; rw [if_neg (by omega)]; rw [if_neg (by omega)]; rw [if_neg (by omega)]; rw [if_pos hk]
    rw [Bool.eq_iff_iff]
    simp only [Bool.and_eq_true, Bool.or_eq_true, decide_eq_true_eq]
    omega
  rw [hs]
  clear hs hk hok d0 d1 d2 d3 d4 d5
  dsimp only [kxV, kxC] at *
  obtain ⟨p0, p1, p2, p3, p4, p5⟩ := HP
  cases b0 with
  | false =>
    clear c1 c2 c3 c4 c5
    try simp only [Bool.false_and, Bool.true_and, Bool.and_true, Bool.and_false]
    go_enter Tryd.func71, Tryd.ntmps71
    go_wp2
    go_ret
    exact ⟨rfl, by first | exact HB.out | exact bal HB.out _ | exact bel_set (bal HB.out _) _ _⟩
  | true =>
    cases b1 with
    | false =>
      clear c2 c3 c4 c5
      try simp only [Bool.false_and, Bool.true_and, Bool.and_true, Bool.and_false]
      go_enter Tryd.func71, Tryd.ntmps71
      go_wp2
      go_ret
      exact ⟨rfl, by first | exact HB.out | exact bal HB.out _ | exact bel_set (bal HB.out _) _ _⟩
    | true =>
      cases b2 with
      | false =>
        clear c3 c4 c5
        try simp only [Bool.false_and, Bool.true_and, Bool.and_true, Bool.and_false]
        go_enter Tryd.func71, Tryd.ntmps71
        go_wp2
        go_ret
        exact ⟨rfl, by first | exact HB.out | exact bal HB.out _ | exact bel_set (bal HB.out _) _ _⟩
      | true =>
        cases b3 with
        | false =>
          clear c4 c5
          try simp only [Bool.false_and, Bool.true_and, Bool.and_true, Bool.and_false]
          go_enter Tryd.func71, Tryd.ntmps71
          go_wp2
          go_ret
          exact ⟨rfl, by first | exact HB.out | exact bal HB.out _ | exact bel_set (bal HB.out _) _ _⟩
        | true =>
          cases b4 with
          | false =>
            clear c5
            try simp only [Bool.false_and, Bool.true_and, Bool.and_true, Bool.and_false]
            go_enter Tryd.func71, Tryd.ntmps71
            go_wp2
            go_ret
            exact ⟨rfl, by first | exact HB.out | exact bal HB.out _ | exact bel_set (bal HB.out _) _ _⟩
          | true =>
            cases b5 with
            | false =>
              try simp only [Bool.false_and, Bool.true_and, Bool.and_true, Bool.and_false]
              go_enter Tryd.func71, Tryd.ntmps71
              go_wp2
              go_ret
              exact ⟨rfl, by first | exact HB.out | exact bal HB.out _ | exact bel_set (bal HB.out _) _ _⟩
            | true =>
              try simp only [Bool.false_and, Bool.true_and, Bool.and_true, Bool.and_false]
              go_enter Tryd.func71, Tryd.ntmps71
              go_wp2
              go_ret
              exact ⟨rfl, by first | exact HB.out | exact bal HB.out _ | exact bel_set (bal HB.out _) _ _⟩
set_option maxRecDepth 100000 in
set_option maxHeartbeats 4000000 in
theorem ROwn_6 (e : Kx) (hok : OKk e) (A : Option Addr) (n c : Nat) (hn : e.l.length = n) (w : World) (hk : e.k = 6) : Calls Tryd.prog 71 #[kxV e A n c] w fun en w' => en = .returned (.bool (shX e)) ∧ Below w.heap.size w w' := by
  have HB := Lib.hid (bal (b0 w) (.cells (kxC e A n c) 45))
  have HP := box6 (boxS_new w 45 (kxC e A n c))
  have k0 : (0 : Int) ≤ (e.k : Int) := by omega
  have k255 : (e.k : Int) ≤ 255 := by have := hok.1; omega
  have CP := Lib.hid fun W => RPrim_any e.t W
  subst hn
  have q1 : ((e.k : Int) == 1) = false := by rw [hk]; rfl
  have q2 : ((e.k : Int) == 2) = false := by rw [hk]; rfl
  have q3 : ((e.k : Int) == 3) = false := by rw [hk]; rfl
  have q4 : ((e.k : Int) == 4) = false := by rw [hk]; rfl
  have q5 : ((e.k : Int) == 5) = false := by rw [hk]; rfl
  have q6 : ((e.k : Int) == 6) = true := by rw [hk]; rfl
  have sx1 : (e.n == e.n) = true := by simp
  have sx2 : (e.v == e.v) = true := by simp
  have sx3 : ((e.o : Int) == (e.o : Int)) = true := by simp
  have sx4 : ((e.t : Int) == (e.t : Int)) = true := by simp
  obtain ⟨b0, c0⟩ : ∃ b, prmB e.t = b := ⟨_, rfl⟩
  rw [c0] at CP
  obtain ⟨b1, d1⟩ : ∃ b, decide (e.l.length = 1) = b := ⟨_, rfl⟩
  have c1 : ((e.l.length : Int) == 1) = b1 := (nat_eqK _ 1 : ((e.l.length : Int) == 1) = decide (e.l.length = 1)).trans d1
  obtain ⟨b2, d2⟩ : ∃ b, decide (e.o = 0) = b := ⟨_, rfl⟩
  have c2 : ((e.o : Int) == 0) = b2 := (nat_eqK _ 0 : ((e.o : Int) == 0) = decide (e.o = 0)).trans d2
  obtain ⟨b3, d3⟩ : ∃ b, decide (e.n = 0) = b := ⟨_, rfl⟩
  have c3 : (e.n == 0) = b3 := (int_eqK _ 0 : (e.n == 0) = decide (e.n = 0)).trans d3
  obtain ⟨b4, d4⟩ : ∃ b, decide (e.v = 0) = b := ⟨_, rfl⟩
  have c4 : (e.v == 0) = b4 := (int_eqK _ 0 : (e.v == 0) = decide (e.v = 0)).trans d4
  have hs : shX e = (b0 && (b1 && (b2 && (b3 && (b4))))) := by
    rw [← c0, ← d1, ← d2, ← d3, ← d4]
    unfold shX; rw [if_neg (by omega)]; rw [if_neg (by omega)]; rw [if_neg (by omega)]; rw [if_neg (by omega)]; rw [if_neg (by omega)]; rw [if_pos hk]
    rw [Bool.eq_iff_iff]
    unfold prmB
    simp only [Bool.and_eq_true, Bool.or_eq_true, decide_eq_true_eq]
    omega
  rw [hs]
  clear hs hk hok d1 d2 d3 d4
  dsimp only [kxV, kxC] at *
  obtain ⟨p0, p1, p2, p3, p4, p5⟩ := HP
  cases b0 with
  | false =>
    clear c1 c2 c3 c4
    try simp only [Bool.false_and, Bool.true_and, Bool.and_true, Bool.and_false]
    go_enter Tryd.func71, Tryd.ntmps71
    go_wp2_with (go_at_call 95; (with_reducible refine (CP.out _).mono ?_); rintro en w' ⟨rfl, rfl⟩)
    go_ret
    exact ⟨rfl, by first | exact HB.out | exact bal HB.out _ | exact bel_set (bal HB.out _) _ _⟩
  | true =>
    cases b1 with
    | false =>
      clear c2 c3 c4
      try simp only [Bool.false_and, Bool.true_and, Bool.and_true, Bool.and_false]
      go_enter Tryd.func71, Tryd.ntmps71
      go_wp2_with (go_at_call 95; (with_reducible refine (CP.out _).mono ?_); rintro en w' ⟨rfl, rfl⟩)
      go_ret
      exact ⟨rfl, by first | exact HB.out | exact bal HB.out _ | exact bel_set (bal HB.out _) _ _⟩
    | true =>
      cases b2 with
      | false =>
        clear c3 c4
        try simp only [Bool.false_and, Bool.true_and, Bool.and_true, Bool.and_false]
        go_enter Tryd.func71, Tryd.ntmps71
        go_wp2_with (go_at_call 95; (with_reducible refine (CP.out _).mono ?_); rintro en w' ⟨rfl, rfl⟩)
        go_ret
        exact ⟨rfl, by first | exact HB.out | exact bal HB.out _ | exact bel_set (bal HB.out _) _ _⟩
      | true =>
        cases b3 with
        | false =>
          clear c4
          try simp only [Bool.false_and, Bool.true_and, Bool.and_true, Bool.and_false]
          go_enter Tryd.func71, Tryd.ntmps71
          go_wp2_with (go_at_call 95; (with_reducible refine (CP.out _).mono ?_); rintro en w' ⟨rfl, rfl⟩)
          go_ret
          exact ⟨rfl, by first | exact HB.out | exact bal HB.out _ | exact bel_set (bal HB.out _) _ _⟩
        | true =>
          cases b4 with
          | false =>
            try simp only [Bool.false_and, Bool.true_and, Bool.and_true, Bool.and_false]
            go_enter Tryd.func71, Tryd.ntmps71
            go_wp2_with (go_at_call 95; (with_reducible refine (CP.out _).mono ?_); rintro en w' ⟨rfl, rfl⟩)
            go_ret
            exact ⟨rfl, by first | exact HB.out | exact bal HB.out _ | exact bel_set (bal HB.out _) _ _⟩
          | true =>
            try simp only [Bool.false_and, Bool.true_and, Bool.and_true, Bool.and_false]
            go_enter Tryd.func71, Tryd.ntmps71
            go_wp2_with (go_at_call 95; (with_reducible refine (CP.out _).mono ?_); rintro en w' ⟨rfl, rfl⟩)
            go_ret
            exact ⟨rfl, by first | exact HB.out | exact bal HB.out _ | exact bel_set (bal HB.out _) _ _⟩
set_option maxRecDepth 100000 in
set_option maxHeartbeats 4000000 in
theorem ROwn_0 (e : Kx) (hok : OKk e) (A : Option Addr) (n c : Nat) (hn : e.l.length = n) (w : World) (hk : e.k < 1 ∨ 6 < e.k) : Calls Tryd.prog 71 #[kxV e A n c] w fun en w' => en = .returned (.bool (shX e)) ∧ Below w.heap.size w w' := by
  have HB := Lib.hid (bal (b0 w) (.cells (kxC e A n c) 45))
  have HP := box6 (boxS_new w 45 (kxC e A n c))
  have k0 : (0 : Int) ≤ (e.k : Int) := by omega
  have k255 : (e.k : Int) ≤ 255 := by have := hok.1; omega
  have CP := Lib.hid fun W => RPrim_any e.t W
  subst hn
  have q1 : ((e.k : Int) == 1) = false := by simp; omega
  have q2 : ((e.k : Int) == 2) = false := by simp; omega
  have q3 : ((e.k : Int) == 3) = false := by simp; omega
  have q4 : ((e.k : Int) == 4) = false := by simp; omega
  have q5 : ((e.k : Int) == 5) = false := by simp; omega
  have q6 : ((e.k : Int) == 6) = false := by simp; omega
  have hs : shX e = false := by unfold shX; rw [if_neg (by omega), if_neg (by omega), if_neg (by omega), if_neg (by omega), if_neg (by omega), if_neg (by omega)]
  rw [hs]
  clear hs hk hok
  dsimp only [kxV, kxC] at *
  obtain ⟨p0, p1, p2, p3, p4, p5⟩ := HP
  go_enter Tryd.func71, Tryd.ntmps71
  go_wp2
  go_ret
  exact ⟨rfl, by first | exact HB.out | exact bal HB.out _ | exact bel_set (bal HB.out _) _ _⟩
theorem ROwn_any (e : Kx) (hok : OKk e) (A : Option Addr) (n c : Nat) (hn : e.l.length = n) (w : World) : Calls Tryd.prog 71 #[kxV e A n c] w fun en w' => en = .returned (.bool (shX e)) ∧ Below w.heap.size w w' := by
  by_cases h0 : e.k < 1 ∨ 6 < e.k
  · exact ROwn_0 e hok A n c hn w h0
  have : e.k = 1 ∨ e.k = 2 ∨ e.k = 3 ∨ e.k = 4 ∨ e.k = 5 ∨ e.k = 6 := by omega
  rcases this with h | h | h | h | h | h
  · exact ROwn_1 e hok A n c hn w h
  · exact ROwn_2 e hok A n c hn w h
  · exact ROwn_3 e hok A n c hn w h
  · exact ROwn_4 e hok A n c hn w h
  · exact ROwn_5 e hok A n c hn w h
  · exact ROwn_6 e hok A n c hn w h
end Go.Proofs.YtblckajejohlbaaDoor
