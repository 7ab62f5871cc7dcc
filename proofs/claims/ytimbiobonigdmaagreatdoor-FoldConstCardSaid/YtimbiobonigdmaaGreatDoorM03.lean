/- The reference: the fields that a kind has (kinds 1 tz0 3). -/
import Derived.Test.YtimbiobonigdmaaGreatDoorM02
set_option linter.unusedVariables false
set_option linter.unusedSimpArgs false
set_option linter.unusedVariables false
set_option linter.unusedSimpArgs false
namespace Go.Proofs.YtimbiobonigdmaaGreatDoor
open Go Go.RowKit L8 L10

set_option maxRecDepth 100000 in
set_option maxHeartbeats 4000000 in
theorem ROwn_1 (e : Ex) (hok : OKe e) (A : Option Addr) (n c : Nat) (hn : e.l.length = n) (w : World) (h1 : e.k = 1) : Calls Tryz.prog 74 #[exV e A n c] w fun en w' => en = .returned (.bool (ownE e)) ∧ Below w.heap.size w w' := by
  have HB0 := Lib.hid (bal (bal (b0 w) (.cells (exC e A n c) 27)) (.cells #[.int .u8 (e.k : Int), .int .u8 0, .int .u8 0, .int .i32 0, .string ⟨#[]⟩, .slice none 0 0] 27))
  have HBs : Hid (∀ Y, Below ((w.alloc (.cells (exC e A n c) 27)).alloc (.cells #[.int .u8 (e.k : Int), .int .u8 0, .int .u8 0, .int .i32 0, .string (strOf e.s), .slice none 0 0] 27)).heap.size ((w.alloc (.cells (exC e A n c) 27)).alloc (.cells #[.int .u8 (e.k : Int), .int .u8 0, .int .u8 0, .int .i32 0, .string (strOf e.s), .slice none 0 0] 27)) Y → Below w.heap.size w Y ∧ BoxS Y w.heap.size 27 (exC e A n c) ∧ BoxS Y (w.heap.size + 1) 27 #[.int .u8 (e.k : Int), .int .u8 0, .int .u8 0, .int .i32 0, .string (strOf e.s), .slice none 0 0]) := Lib.hid (by
    intro Y b
    have h2 := boxS_new (w.alloc (.cells (exC e A n c) 27)) 27 #[.int .u8 (e.k : Int), .int .u8 0, .int .u8 0, .int .i32 0, .string (strOf e.s), .slice none 0 0]
    rw [World.size_alloc] at h2
    exact ⟨blw (bal (bal (b0 w) _) _) b, ((boxS_new w _ _).alloc _).below b, h2.below b⟩)
  have HBo : Hid (∀ cs : Array Value, Below w.heap.size w ((w.alloc (.cells (exC e A n c) 27)).alloc (.cells cs 27))) := Lib.hid fun cs => bal (bal (b0 w) _) _
  have CN := Lib.hid (fun (W : World) => RName_any e.s hok.2.2.2.2.2 W)
  have CP := Lib.hid (fun (W : World) => RPrimX_any e.t W)
  have ho0 : (0 : Int) ≤ (e.o : Int) := by omega
  have q1 : ((e.k : Int) == 1) = decide (e.k = 1) := nat_eq10 _ 1
  have q2 : ((e.k : Int) == 2) = decide (e.k = 2) := nat_eq10 _ 2
  have q3 : ((e.k : Int) == 3) = decide (e.k = 3) := nat_eq10 _ 3
  have q4 : ((e.k : Int) == 4) = decide (e.k = 4) := nat_eq10 _ 4
  have q5 : ((e.k : Int) == 5) = decide (e.k = 5) := nat_eq10 _ 5
  have q6 : ((e.k : Int) == 6) = decide (e.k = 6) := nat_eq10 _ 6
  have q7 : ((e.k : Int) == 7) = decide (e.k = 7) := nat_eq10 _ 7
  have q8 : ((e.k : Int) == 8) = decide (e.k = 8) := nat_eq10 _ 8
  have q9 : ((e.k : Int) == 9) = decide (e.k = 9) := nat_eq10 _ 9
  have r0 : ((n : Int) == 0) = decide (n = 0) := nat_eq10 _ 0
  have r1 : ((n : Int) == 1) = decide (n = 1) := nat_eq10 _ 1
  have r2 : ((n : Int) == 2) = decide (n = 2) := nat_eq10 _ 2
  have tz0 : ((e.o : Int) == 0) = decide (e.o = 0) := nat_eq10 _ 0
  have tt : ((e.t : Int) == 0) = decide (e.t = 0) := nat_eq10 _ 0
  have tn : (e.n == 0) = decide (e.n = 0) := by by_cases h : e.n = 0 <;> simp [h]
  have tn1 : (e.n == 1) = decide (e.n = 1) := by by_cases h : e.n = 1 <;> simp [h]
  have ts := eq_nil10 e.s
  have d23 : decide (23 ≤ e.o) = decide ((23 : Int) ≤ (e.o : Int)) := decide_eq_decide.2 (by omega)
  have d26 : decide (e.o ≤ 26) = decide ((e.o : Int) ≤ 26) := decide_eq_decide.2 (by omega)
  have d1 : decide (1 ≤ e.o) = decide ((1 : Int) ≤ (e.o : Int)) := decide_eq_decide.2 (by omega)
  have d22 : decide (e.o ≤ 22) = decide ((e.o : Int) ≤ 22) := decide_eq_decide.2 (by omega)
  clear hok
  dsimp only [exV, exC] at *
  rw [own_is1 h1, hn]
  rw [decide_eq_true h1] at q1
  rw [decide_eq_false (show ¬ e.k = 2 by omega)] at q2
  rw [decide_eq_false (show ¬ e.k = 3 by omega)] at q3
  rw [decide_eq_false (show ¬ e.k = 4 by omega)] at q4
  rw [decide_eq_false (show ¬ e.k = 5 by omega)] at q5
  rw [decide_eq_false (show ¬ e.k = 6 by omega)] at q6
  rw [decide_eq_false (show ¬ e.k = 7 by omega)] at q7
  rw [decide_eq_false (show ¬ e.k = 8 by omega)] at q8
  rw [decide_eq_false (show ¬ e.k = 9 by omega)] at q9
  clear h1
  all_goals generalize decide (n = 0) = bl at *
  all_goals generalize decide (e.o = 0) = bo at *
  all_goals generalize decide (e.t = 0) = bt at *
  all_goals generalize decide (e.s = []) = bs at *
  all_goals generalize strOf e.s = S at *
  clear CN CP HBs
  simp only [Bool.true_and]
  cases bl with
  | false =>
    try simp only [Bool.false_and, Bool.true_and, Bool.and_true, Bool.and_false]
    go_enter Tryz.func74, Tryz.ntmps74
    go_wp2
    go_ret
    exact ⟨rfl, HBo.out _⟩
  | true =>
    try simp only [Bool.true_and, Bool.and_true]
    cases bo with
    | false =>
      try simp only [Bool.false_and, Bool.true_and, Bool.and_true, Bool.and_false]
      go_enter Tryz.func74, Tryz.ntmps74
      go_wp2
      go_ret
      exact ⟨rfl, HBo.out _⟩
    | true =>
      try simp only [Bool.true_and, Bool.and_true]
      cases bt with
      | false =>
        try simp only [Bool.false_and, Bool.true_and, Bool.and_true, Bool.and_false]
        go_enter Tryz.func74, Tryz.ntmps74
        go_wp2
        go_ret
        exact ⟨rfl, HBo.out _⟩
      | true =>
        try simp only [Bool.true_and, Bool.and_true]
        cases bs with
        | false =>
          try simp only [Bool.false_and, Bool.true_and, Bool.and_true, Bool.and_false]
          go_enter Tryz.func74, Tryz.ntmps74
          go_wp2
          go_ret
          exact ⟨rfl, HBo.out _⟩
        | true =>
          try simp only [Bool.true_and, Bool.and_true]
          go_enter Tryz.func74, Tryz.ntmps74
          go_wp2
          go_ret
          exact ⟨rfl, HBo.out _⟩
set_option maxRecDepth 100000 in
set_option maxHeartbeats 4000000 in
theorem ROwn_2 (e : Ex) (hok : OKe e) (A : Option Addr) (n c : Nat) (hn : e.l.length = n) (w : World) (h2 : e.k = 2) : Calls Tryz.prog 74 #[exV e A n c] w fun en w' => en = .returned (.bool (ownE e)) ∧ Below w.heap.size w w' := by
  have HB0 := Lib.hid (bal (bal (b0 w) (.cells (exC e A n c) 27)) (.cells #[.int .u8 (e.k : Int), .int .u8 0, .int .u8 0, .int .i32 0, .string ⟨#[]⟩, .slice none 0 0] 27))
  have HBs : Hid (∀ Y, Below ((w.alloc (.cells (exC e A n c) 27)).alloc (.cells #[.int .u8 (e.k : Int), .int .u8 0, .int .u8 0, .int .i32 0, .string (strOf e.s), .slice none 0 0] 27)).heap.size ((w.alloc (.cells (exC e A n c) 27)).alloc (.cells #[.int .u8 (e.k : Int), .int .u8 0, .int .u8 0, .int .i32 0, .string (strOf e.s), .slice none 0 0] 27)) Y → Below w.heap.size w Y ∧ BoxS Y w.heap.size 27 (exC e A n c) ∧ BoxS Y (w.heap.size + 1) 27 #[.int .u8 (e.k : Int), .int .u8 0, .int .u8 0, .int .i32 0, .string (strOf e.s), .slice none 0 0]) := Lib.hid (by
    intro Y b
    have h2 := boxS_new (w.alloc (.cells (exC e A n c) 27)) 27 #[.int .u8 (e.k : Int), .int .u8 0, .int .u8 0, .int .i32 0, .string (strOf e.s), .slice none 0 0]
    rw [World.size_alloc] at h2
    exact ⟨blw (bal (bal (b0 w) _) _) b, ((boxS_new w _ _).alloc _).below b, h2.below b⟩)
  have HBo : Hid (∀ cs : Array Value, Below w.heap.size w ((w.alloc (.cells (exC e A n c) 27)).alloc (.cells cs 27))) := Lib.hid fun cs => bal (bal (b0 w) _) _
  have CN := Lib.hid (fun (W : World) => RName_any e.s hok.2.2.2.2.2 W)
  have CP := Lib.hid (fun (W : World) => RPrimX_any e.t W)
  have ho0 : (0 : Int) ≤ (e.o : Int) := by omega
  have q1 : ((e.k : Int) == 1) = decide (e.k = 1) := nat_eq10 _ 1
  have q2 : ((e.k : Int) == 2) = decide (e.k = 2) := nat_eq10 _ 2
  have q3 : ((e.k : Int) == 3) = decide (e.k = 3) := nat_eq10 _ 3
  have q4 : ((e.k : Int) == 4) = decide (e.k = 4) := nat_eq10 _ 4
  have q5 : ((e.k : Int) == 5) = decide (e.k = 5) := nat_eq10 _ 5
  have q6 : ((e.k : Int) == 6) = decide (e.k = 6) := nat_eq10 _ 6
  have q7 : ((e.k : Int) == 7) = decide (e.k = 7) := nat_eq10 _ 7
  have q8 : ((e.k : Int) == 8) = decide (e.k = 8) := nat_eq10 _ 8
  have q9 : ((e.k : Int) == 9) = decide (e.k = 9) := nat_eq10 _ 9
  have r0 : ((n : Int) == 0) = decide (n = 0) := nat_eq10 _ 0
  have r1 : ((n : Int) == 1) = decide (n = 1) := nat_eq10 _ 1
  have r2 : ((n : Int) == 2) = decide (n = 2) := nat_eq10 _ 2
  have tz0 : ((e.o : Int) == 0) = decide (e.o = 0) := nat_eq10 _ 0
  have tt : ((e.t : Int) == 0) = decide (e.t = 0) := nat_eq10 _ 0
  have tn : (e.n == 0) = decide (e.n = 0) := by by_cases h : e.n = 0 <;> simp [h]
  have tn1 : (e.n == 1) = decide (e.n = 1) := by by_cases h : e.n = 1 <;> simp [h]
  have ts := eq_nil10 e.s
  have d23 : decide (23 ≤ e.o) = decide ((23 : Int) ≤ (e.o : Int)) := decide_eq_decide.2 (by omega)
  have d26 : decide (e.o ≤ 26) = decide ((e.o : Int) ≤ 26) := decide_eq_decide.2 (by omega)
  have d1 : decide (1 ≤ e.o) = decide ((1 : Int) ≤ (e.o : Int)) := decide_eq_decide.2 (by omega)
  have d22 : decide (e.o ≤ 22) = decide ((e.o : Int) ≤ 22) := decide_eq_decide.2 (by omega)
  clear hok
  dsimp only [exV, exC] at *
  rw [own_is2 h2, hn]
  rw [decide_eq_true h2] at q2
  rw [decide_eq_false (show ¬ e.k = 1 by omega)] at q1
  rw [decide_eq_false (show ¬ e.k = 3 by omega)] at q3
  rw [decide_eq_false (show ¬ e.k = 4 by omega)] at q4
  rw [decide_eq_false (show ¬ e.k = 5 by omega)] at q5
  rw [decide_eq_false (show ¬ e.k = 6 by omega)] at q6
  rw [decide_eq_false (show ¬ e.k = 7 by omega)] at q7
  rw [decide_eq_false (show ¬ e.k = 8 by omega)] at q8
  rw [decide_eq_false (show ¬ e.k = 9 by omega)] at q9
  clear h2
  clear CN CP HBs
  by_cases g1 : 0 ≤ e.n <;> by_cases g2 : e.n ≤ 255
  all_goals try (exfalso; omega)
  all_goals simp only [g1, g2, decide_true, decide_false, Bool.true_and, Bool.false_and, Bool.and_false]
  all_goals generalize decide (n = 0) = bl at *
  all_goals generalize decide (e.o = 0) = bo at *
  all_goals generalize decide (e.t = 0) = bt at *
  all_goals generalize decide (e.s = []) = bs at *
  all_goals generalize strOf e.s = S at *
  · cases bl with
    | false =>
      try simp only [Bool.false_and, Bool.true_and, Bool.and_true, Bool.and_false]
      go_enter Tryz.func74, Tryz.ntmps74
      go_wp2
      go_ret
      exact ⟨rfl, HBo.out _⟩
    | true =>
      try simp only [Bool.true_and, Bool.and_true]
      cases bo with
      | false =>
        try simp only [Bool.false_and, Bool.true_and, Bool.and_true, Bool.and_false]
        go_enter Tryz.func74, Tryz.ntmps74
        go_wp2
        go_ret
        exact ⟨rfl, HBo.out _⟩
      | true =>
        try simp only [Bool.true_and, Bool.and_true]
        cases bt with
        | false =>
          try simp only [Bool.false_and, Bool.true_and, Bool.and_true, Bool.and_false]
          go_enter Tryz.func74, Tryz.ntmps74
          go_wp2
          go_ret
          exact ⟨rfl, HBo.out _⟩
        | true =>
          try simp only [Bool.true_and, Bool.and_true]
          cases bs with
          | false =>
            try simp only [Bool.false_and, Bool.true_and, Bool.and_true, Bool.and_false]
            go_enter Tryz.func74, Tryz.ntmps74
            go_wp2
            go_ret
            exact ⟨rfl, HBo.out _⟩
          | true =>
            try simp only [Bool.true_and, Bool.and_true]
            go_enter Tryz.func74, Tryz.ntmps74
            go_wp2
            go_ret
            exact ⟨rfl, HBo.out _⟩
  · go_enter Tryz.func74, Tryz.ntmps74
    go_wp2
    go_ret
    exact ⟨rfl, HBo.out _⟩
  · go_enter Tryz.func74, Tryz.ntmps74
    go_wp2
    go_ret
    exact ⟨rfl, HBo.out _⟩
set_option maxRecDepth 100000 in
set_option maxHeartbeats 4000000 in
theorem ROwn_3 (e : Ex) (hok : OKe e) (A : Option Addr) (n c : Nat) (hn : e.l.length = n) (w : World) (h3 : e.k = 3) : Calls Tryz.prog 74 #[exV e A n c] w fun en w' => en = .returned (.bool (ownE e)) ∧ Below w.heap.size w w' := by
  have HB0 := Lib.hid (bal (bal (b0 w) (.cells (exC e A n c) 27)) (.cells #[.int .u8 (e.k : Int), .int .u8 0, .int .u8 0, .int .i32 0, .string ⟨#[]⟩, .slice none 0 0] 27))
  have HBs : Hid (∀ Y, Below ((w.alloc (.cells (exC e A n c) 27)).alloc (.cells #[.int .u8 (e.k : Int), .int .u8 0, .int .u8 0, .int .i32 0, .string (strOf e.s), .slice none 0 0] 27)).heap.size ((w.alloc (.cells (exC e A n c) 27)).alloc (.cells #[.int .u8 (e.k : Int), .int .u8 0, .int .u8 0, .int .i32 0, .string (strOf e.s), .slice none 0 0] 27)) Y → Below w.heap.size w Y ∧ BoxS Y w.heap.size 27 (exC e A n c) ∧ BoxS Y (w.heap.size + 1) 27 #[.int .u8 (e.k : Int), .int .u8 0, .int .u8 0, .int .i32 0, .string (strOf e.s), .slice none 0 0]) := Lib.hid (by
    intro Y b
    have h2 := boxS_new (w.alloc (.cells (exC e A n c) 27)) 27 #[.int .u8 (e.k : Int), .int .u8 0, .int .u8 0, .int .i32 0, .string (strOf e.s), .slice none 0 0]
    rw [World.size_alloc] at h2
    exact ⟨blw (bal (bal (b0 w) _) _) b, ((boxS_new w _ _).alloc _).below b, h2.below b⟩)
  have HBo : Hid (∀ cs : Array Value, Below w.heap.size w ((w.alloc (.cells (exC e A n c) 27)).alloc (.cells cs 27))) := Lib.hid fun cs => bal (bal (b0 w) _) _
  have CN := Lib.hid (fun (W : World) => RName_any e.s hok.2.2.2.2.2 W)
  have CP := Lib.hid (fun (W : World) => RPrimX_any e.t W)
  have ho0 : (0 : Int) ≤ (e.o : Int) := by omega
  have q1 : ((e.k : Int) == 1) = decide (e.k = 1) := nat_eq10 _ 1
  have q2 : ((e.k : Int) == 2) = decide (e.k = 2) := nat_eq10 _ 2
  have q3 : ((e.k : Int) == 3) = decide (e.k = 3) := nat_eq10 _ 3
  have q4 : ((e.k : Int) == 4) = decide (e.k = 4) := nat_eq10 _ 4
  have q5 : ((e.k : Int) == 5) = decide (e.k = 5) := nat_eq10 _ 5
  have q6 : ((e.k : Int) == 6) = decide (e.k = 6) := nat_eq10 _ 6
  have q7 : ((e.k : Int) == 7) = decide (e.k = 7) := nat_eq10 _ 7
  have q8 : ((e.k : Int) == 8) = decide (e.k = 8) := nat_eq10 _ 8
  have q9 : ((e.k : Int) == 9) = decide (e.k = 9) := nat_eq10 _ 9
  have r0 : ((n : Int) == 0) = decide (n = 0) := nat_eq10 _ 0
  have r1 : ((n : Int) == 1) = decide (n = 1) := nat_eq10 _ 1
  have r2 : ((n : Int) == 2) = decide (n = 2) := nat_eq10 _ 2
  have tz0 : ((e.o : Int) == 0) = decide (e.o = 0) := nat_eq10 _ 0
  have tt : ((e.t : Int) == 0) = decide (e.t = 0) := nat_eq10 _ 0
  have tn : (e.n == 0) = decide (e.n = 0) := by by_cases h : e.n = 0 <;> simp [h]
  have tn1 : (e.n == 1) = decide (e.n = 1) := by by_cases h : e.n = 1 <;> simp [h]
  have ts := eq_nil10 e.s
  have d23 : decide (23 ≤ e.o) = decide ((23 : Int) ≤ (e.o : Int)) := decide_eq_decide.2 (by omega)
  have d26 : decide (e.o ≤ 26) = decide ((e.o : Int) ≤ 26) := decide_eq_decide.2 (by omega)
  have d1 : decide (1 ≤ e.o) = decide ((1 : Int) ≤ (e.o : Int)) := decide_eq_decide.2 (by omega)
  have d22 : decide (e.o ≤ 22) = decide ((e.o : Int) ≤ 22) := decide_eq_decide.2 (by omega)
  clear hok
  dsimp only [exV, exC] at *
  rw [own_is3 h3, hn]
  rw [decide_eq_true h3] at q3
  rw [decide_eq_false (show ¬ e.k = 1 by omega)] at q1
  rw [decide_eq_false (show ¬ e.k = 2 by omega)] at q2
  rw [decide_eq_false (show ¬ e.k = 4 by omega)] at q4
  rw [decide_eq_false (show ¬ e.k = 5 by omega)] at q5
  rw [decide_eq_false (show ¬ e.k = 6 by omega)] at q6
  rw [decide_eq_false (show ¬ e.k = 7 by omega)] at q7
  rw [decide_eq_false (show ¬ e.k = 8 by omega)] at q8
  rw [decide_eq_false (show ¬ e.k = 9 by omega)] at q9
  clear h3
  all_goals generalize decide (n = 0) = bl at *
  all_goals generalize decide (e.o = 0) = bo at *
  all_goals generalize decide (e.t = 0) = bt at *
  all_goals generalize decide (e.s = []) = bs at *
  clear CN CP HBs
  generalize decide (e.n = 0) = b1 at *
  generalize decide (e.n = 1) = b2 at *
  all_goals generalize strOf e.s = S at *
  cases b1 <;> cases b2
  all_goals simp only [Bool.or_true, Bool.or_false, Bool.true_or, Bool.false_or, Bool.true_and, Bool.false_and]
  · go_enter Tryz.func74, Tryz.ntmps74
    go_wp2
    go_ret
    exact ⟨rfl, HBo.out _⟩
  · cases bl with
    | false =>
      try simp only [Bool.false_and, Bool.true_and, Bool.and_true, Bool.and_false]
      go_enter Tryz.func74, Tryz.ntmps74
      go_wp2
      go_ret
      exact ⟨rfl, HBo.out _⟩
    | true =>
      try simp only [Bool.true_and, Bool.and_true]
      cases bo with
      | false =>
        try simp only [Bool.false_and, Bool.true_and, Bool.and_true, Bool.and_false]
        go_enter Tryz.func74, Tryz.ntmps74
        go_wp2
        go_ret
        exact ⟨rfl, HBo.out _⟩
      | true =>
        try simp only [Bool.true_and, Bool.and_true]
        cases bt with
        | false =>
          try simp only [Bool.false_and, Bool.true_and, Bool.and_true, Bool.and_false]
          go_enter Tryz.func74, Tryz.ntmps74
          go_wp2
          go_ret
          exact ⟨rfl, HBo.out _⟩
        | true =>
          try simp only [Bool.true_and, Bool.and_true]
          cases bs with
          | false =>
            try simp only [Bool.false_and, Bool.true_and, Bool.and_true, Bool.and_false]
            go_enter Tryz.func74, Tryz.ntmps74
            go_wp2
            go_ret
            exact ⟨rfl, HBo.out _⟩
          | true =>
            try simp only [Bool.true_and, Bool.and_true]
            go_enter Tryz.func74, Tryz.ntmps74
            go_wp2
            go_ret
            exact ⟨rfl, HBo.out _⟩
  · cases bl with
    | false =>
      try simp only [Bool.false_and, Bool.true_and, Bool.and_true, Bool.and_false]
      go_enter Tryz.func74, Tryz.ntmps74
      go_wp2
      go_ret
      exact ⟨rfl, HBo.out _⟩
    | true =>
      try simp only [Bool.true_and, Bool.and_true]
      cases bo with
      | false =>
        try simp only [Bool.false_and, Bool.true_and, Bool.and_true, Bool.and_false]
        go_enter Tryz.func74, Tryz.ntmps74
        go_wp2
        go_ret
        exact ⟨rfl, HBo.out _⟩
      | true =>
        try simp only [Bool.true_and, Bool.and_true]
        cases bt with
        | false =>
          try simp only [Bool.false_and, Bool.true_and, Bool.and_true, Bool.and_false]
          go_enter Tryz.func74, Tryz.ntmps74
          go_wp2
          go_ret
          exact ⟨rfl, HBo.out _⟩
        | true =>
          try simp only [Bool.true_and, Bool.and_true]
          cases bs with
          | false =>
            try simp only [Bool.false_and, Bool.true_and, Bool.and_true, Bool.and_false]
            go_enter Tryz.func74, Tryz.ntmps74
            go_wp2
            go_ret
            exact ⟨rfl, HBo.out _⟩
          | true =>
            try simp only [Bool.true_and, Bool.and_true]
            go_enter Tryz.func74, Tryz.ntmps74
            go_wp2
            go_ret
            exact ⟨rfl, HBo.out _⟩
  · cases bl with
    | false =>
      try simp only [Bool.false_and, Bool.true_and, Bool.and_true, Bool.and_false]
      go_enter Tryz.func74, Tryz.ntmps74
      go_wp2
      go_ret
      exact ⟨rfl, HBo.out _⟩
    | true =>
      try simp only [Bool.true_and, Bool.and_true]
      cases bo with
      | false =>
        try simp only [Bool.false_and, Bool.true_and, Bool.and_true, Bool.and_false]
        go_enter Tryz.func74, Tryz.ntmps74
        go_wp2
        go_ret
        exact ⟨rfl, HBo.out _⟩
      | true =>
        try simp only [Bool.true_and, Bool.and_true]
        cases bt with
        | false =>
          try simp only [Bool.false_and, Bool.true_and, Bool.and_true, Bool.and_false]
          go_enter Tryz.func74, Tryz.ntmps74
          go_wp2
          go_ret
          exact ⟨rfl, HBo.out _⟩
        | true =>
          try simp only [Bool.true_and, Bool.and_true]
          cases bs with
          | false =>
            try simp only [Bool.false_and, Bool.true_and, Bool.and_true, Bool.and_false]
            go_enter Tryz.func74, Tryz.ntmps74
            go_wp2
            go_ret
            exact ⟨rfl, HBo.out _⟩
          | true =>
            try simp only [Bool.true_and, Bool.and_true]
            go_enter Tryz.func74, Tryz.ntmps74
            go_wp2
            go_ret
            exact ⟨rfl, HBo.out _⟩
end Go.Proofs.YtimbiobonigdmaaGreatDoor
