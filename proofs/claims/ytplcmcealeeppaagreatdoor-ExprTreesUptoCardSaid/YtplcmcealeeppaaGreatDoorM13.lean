/- The reference: the fields that a kind has. -/
import Derived.Laws.StructEq
import Derived.Test.YtplcmcealeeppaaGreatDoorM01
import Derived.Test.YtplcmcealeeppaaGreatDoorM10
import Derived.Test.YtplcmcealeeppaaGreatDoorM11
import Derived.Test.YtplcmcealeeppaaGreatDoorM12
import Derived.Test.YtplcmcealeeppaaGreatDoorM03
import Derived.Test.YtplcmcealeeppaaGreatDoorM04
set_option linter.unusedVariables false
set_option linter.unusedSimpArgs false
set_option linter.unusedVariables false
set_option linter.unusedSimpArgs false
namespace Go.Proofs.YtplcmcealeeppaaGreatDoor
open Go Go.RowKit L8 L10

theorem RPrimX_any (k : Nat) (w : World) : Calls Tryz.prog 93 #[.int .u8 (k : Int)] w fun e w' => e = .returned (.bool (prim k)) ∧ w = w' := by
  have q1 : ((k : Int) == 1) = decide (k = 1) := nat_eq10 k 1
  have q2 : ((k : Int) == 2) = decide (k = 2) := nat_eq10 k 2
  have q3 : ((k : Int) == 3) = decide (k = 3) := nat_eq10 k 3
  unfold prim
  generalize decide (k = 1) = b1 at *
  generalize decide (k = 2) = b2 at *
  generalize decide (k = 3) = b3 at *
  cases b1 <;> cases b2 <;> cases b3
  all_goals
    go_enter Tryz.func93, Tryz.ntmps93
    go_wp2
    go_ret
    exact ⟨rfl, rfl⟩
theorem eq_nil10 (l : Bs) : ((strOf l).toList.isEmpty) = decide (l = []) := by rw [strOf_empty]; cases l <;> rfl
theorem and6 (a b c d e : Bool) : (a && (b && (c && (d && e)))) = (a && b && c && d && e) := by cases a <;> cases b <;> cases c <;> cases d <;> rfl
theorem own_is1 {e : Ex} (h : e.k = 1) : ownE e = (true && (decide (e.l.length = 0) && (decide (e.o = 0) && (decide (e.t = 0) && (decide (e.s = [])))))) := by
  unfold ownE fineE zeroE parts
  simp only [h]
  simp
theorem own_is2 {e : Ex} (h : e.k = 2) : ownE e = ((decide (0 ≤ e.n) && decide (e.n ≤ 255)) && (decide (e.l.length = 0) && (decide (e.o = 0) && (decide (e.t = 0) && (decide (e.s = [])))))) := by
  unfold ownE fineE zeroE parts
  simp only [h]
  simp [Bool.and_assoc]
theorem own_is3 {e : Ex} (h : e.k = 3) : ownE e = ((decide (e.n = 0) || decide (e.n = 1)) && (decide (e.l.length = 0) && (decide (e.o = 0) && (decide (e.t = 0) && (decide (e.s = [])))))) := by
  unfold ownE fineE zeroE parts
  simp only [h]
  simp [Bool.and_assoc]
theorem own_is4 {e : Ex} (h : e.k = 4) : ownE e = (isName e.s && (decide (e.l.length = 0) && (decide (e.o = 0) && (decide (e.t = 0) && (decide (e.n = 0)))))) := by
  unfold ownE fineE zeroE parts
  simp only [h]
  simp [Bool.and_assoc]
theorem own_is5 {e : Ex} (h : e.k = 5) : ownE e = (isName e.s && (decide (e.l.length = 1) && (decide (e.o = 0) && (decide (e.t = 0) && (decide (e.n = 0)))))) := by
  unfold ownE fineE zeroE parts
  simp only [h]
  simp [Bool.and_assoc]
theorem own_is6 {e : Ex} (h : e.k = 6) : ownE e = ((decide (23 ≤ e.o) && decide (e.o ≤ 26)) && (decide (e.l.length = 1) && (decide (e.t = 0) && (decide (e.n = 0) && (decide (e.s = [])))))) := by
  unfold ownE fineE zeroE parts
  simp only [h]
  simp [Bool.and_assoc]
theorem own_is7 {e : Ex} (h : e.k = 7) : ownE e = ((decide (1 ≤ e.o) && decide (e.o ≤ 22)) && (decide (e.l.length = 2) && (decide (e.t = 0) && (decide (e.n = 0) && (decide (e.s = [])))))) := by
  unfold ownE fineE zeroE parts
  simp only [h]
  simp [Bool.and_assoc]
theorem own_is8 {e : Ex} (h : e.k = 8) : ownE e = (prim e.t && (decide (e.l.length = 1) && (decide (e.o = 0) && (decide (e.n = 0) && (decide (e.s = [])))))) := by
  unfold ownE fineE zeroE parts
  simp only [h]
  simp [Bool.and_assoc]
theorem own_is9 {e : Ex} (h : e.k = 9) : ownE e = (isName e.s && (decide (e.l.length = 0) && (decide (e.o = 0) && (decide (e.t = 0) && (decide (e.n = 0)))))) := by
  unfold ownE fineE zeroE parts
  simp only [h]
  simp [Bool.and_assoc]
theorem own_isx {e : Ex} (h1 : e.k ≠ 1) (h2 : e.k ≠ 2) (h3 : e.k ≠ 3) (h4 : e.k ≠ 4) (h5 : e.k ≠ 5) (h6 : e.k ≠ 6) (h7 : e.k ≠ 7) (h8 : e.k ≠ 8) (h9 : e.k ≠ 9) : ownE e = false := by
  unfold ownE fineE
  simp [h1, h2, h3, h4, h5, h6, h7, h8, h9]
end Go.Proofs.YtplcmcealeeppaaGreatDoor
/- The reference: the fields that a kind has (kinds 1 tz0 3). -/
set_option linter.unusedVariables false
set_option linter.unusedSimpArgs false
namespace Go.Proofs.YtplcmcealeeppaaGreatDoor
open Go Go.RowKit L8 L10

set_option maxRecDepth 100000 in
set_option maxHeartbeats 4000000 in
theorem ROwn_1 (e : Ex) (hok : OKe e) (A : Option Addr) (n c : Nat) (hn : e.l.length = n) (w : World) (h1 : e.k = 1) : Calls Tryz.prog 57 #[exV e A n c] w fun en w' => en = .returned (.bool (ownE e)) ∧ Below w.heap.size w w' := by
  have HB0 := Lib.hid (bal (bal (b0 w) (.cells (exC e A n c) 27)) (.cells #[.int .u8 (e.k : Int), .int .u8 0, .int .u8 0, .int .i32 0, .string ⟨#[]⟩, .slice none 0 0] 27))
  have HBs : Hid (∀ Y, Below ((w.alloc (.cells (exC e A n c) 27)).alloc (.cells #[.int .u8 (e.k : Int), .int .u8 0, .int .u8 0, .int .i32 0, .string (strOf e.s), .slice none 0 0] 27)).heap.size ((w.alloc (.cells (exC e A n c) 27)).alloc (.cells #[.int .u8 (e.k : Int), .int .u8 0, .int .u8 0, .int .i32 0, .string (strOf e.s), .slice none 0 0] 27)) Y → Below w.heap.size w Y ∧ BoxS Y w.heap.size 27 (exC e A n c) ∧ BoxS Y (w.heap.size + 1) 27 #[.int .u8 (e.k : Int), .int .u8 0, .int .u8 0, .int .i32 0, .string (strOf e.s), .slice none 0 0]) := Lib.hid (by
    intro Y b
    have h2 := boxS_new (w.alloc (.cells (exC e A n c) 27)) 27 #[.int .u8 (e.k : Int), .int .u8 0, .int .u8 0, .int .i32 0, .string (strOf e.s), .slice none 0 0]
    rw [World.size_alloc] at h2
    exact ⟨blw (bal (bal (b0 w) _) _) b, ((boxS_new w _ _).alloc _).below b, h2.below b⟩)
  have HBo : Hid (∀ cs : Array Value, Below w.heap.size w ((w.alloc (.cells (exC e A n c) 27)).alloc (.cells cs 27))) := Lib.hid fun cs => bal (bal (b0 w) _) _
  have CN := Lib.hid (fun (W : World) => RName_any e.s hok.2.2.2.2.2 W)
  have CP := Lib.hid (fun (W : World) => RPrimX_any e.t W)
  have ho0 : (0 : Int) ≤ (e.o : Int) := by omega
  have q1 : ((e.k : Int) == 1) = decide (e.k = 1) := nat_eq10 _ 1
  have q2 : ((e.k : Int) == 2) = decide (e.k = 2) := nat_eq10 _ 2
  have q3 : ((e.k : Int) == 3) = decide (e.k = 3) := nat_eq10 _ 3
  have q4 : ((e.k : Int) == 4) = decide (e.k = 4) := nat_eq10 _ 4
  have q5 : ((e.k : Int) == 5) = decide (e.k = 5) := nat_eq10 _ 5
  have q6 : ((e.k : Int) == 6) = decide (e.k = 6) := nat_eq10 _ 6
  have q7 : ((e.k : Int) == 7) = decide (e.k = 7) := nat_eq10 _ 7
  have q8 : ((e.k : Int) == 8) = decide (e.k = 8) := nat_eq10 _ 8
  have q9 : ((e.k : Int) == 9) = decide (e.k = 9) := nat_eq10 _ 9
  have r0 : ((n : Int) == 0) = decide (n = 0) := nat_eq10 _ 0
  have r1 : ((n : Int) == 1) = decide (n = 1) := nat_eq10 _ 1
  have r2 : ((n : Int) == 2) = decide (n = 2) := nat_eq10 _ 2
  have tz0 : ((e.o : Int) == 0) = decide (e.o = 0) := nat_eq10 _ 0
  have tt : ((e.t : Int) == 0) = decide (e.t = 0) := nat_eq10 _ 0
  have tn : (e.n == 0) = decide (e.n = 0) := by by_cases h : e.n = 0 <;> simp [h]
  have tn1 : (e.n == 1) = decide (e.n = 1) := by by_cases h : e.n = 1 <;> simp [h]
  have ts := eq_nil10 e.s
  have d23 : decide (23 ≤ e.o) = decide ((23 : Int) ≤ (e.o : Int)) := decide_eq_decide.2 (by omega)
  have d26 : decide (e.o ≤ 26) = decide ((e.o : Int) ≤ 26) := decide_eq_decide.2 (by omega)
  have d1 : decide (1 ≤ e.o) = decide ((1 : Int) ≤ (e.o : Int)) := decide_eq_decide.2 (by omega)
  have d22 : decide (e.o ≤ 22) = decide ((e.o : Int) ≤ 22) := decide_eq_decide.2 (by omega)
  clear hok
  dsimp only [exV, exC] at *
  rw [own_is1 h1, hn]
  rw [decide_eq_true h1] at q1
  rw [decide_eq_false (show ¬ e.k = 2 by omega)] at q2
  rw [decide_eq_false (show ¬ e.k = 3 by omega)] at q3
  rw [decide_eq_false (show ¬ e.k = 4 by omega)] at q4
  rw [decide_eq_false (show ¬ e.k = 5 by omega)] at q5
  rw [decide_eq_false (show ¬ e.k = 6 by omega)] at q6
  rw [decide_eq_false (show ¬ e.k = 7 by omega)] at q7
  rw [decide_eq_false (show ¬ e.k = 8 by omega)] at q8
  rw [decide_eq_false (show ¬ e.k = 9 by omega)] at q9
  clear h1
  all_goals generalize decide (n = 0) = bl at *
  all_goals generalize decide (e.o = 0) = bo at *
  all_goals generalize decide (e.t = 0) = bt at *
  all_goals generalize decide (e.s = []) = bs at *
  all_goals generalize strOf e.s = S at *
  clear CN CP HBs
  simp only [Bool.true_and]
  cases bl with
  | false =>
    try simp only [Bool.false_and, Bool.true_and, Bool.and_true, Bool.and_false]
    go_enter Tryz.func57, Tryz.ntmps57
    go_wp2
    go_ret
    exact ⟨rfl, HBo.out _⟩
  | true =>
    try simp only [Bool.true_and, Bool.and_true]
    cases bo with
    | false =>
      try simp only [Bool.false_and, Bool.true_and, Bool.and_true, Bool.and_false]
      go_enter Tryz.func57, Tryz.ntmps57
      go_wp2
      go_ret
      exact ⟨rfl, HBo.out _⟩
    | true =>
      try simp only [Bool.true_and, Bool.and_true]
      cases bt with
      | false =>
        try simp only [Bool.false_and, Bool.true_and, Bool.and_true, Bool.and_false]
        go_enter Tryz.func57, Tryz.ntmps57
        go_wp2
        go_ret
        exact ⟨rfl, HBo.out _⟩
      | true =>
        try simp only [Bool.true_and, Bool.and_true]
        cases bs with
        | false =>
          try simp only [Bool.false_and, Bool.true_and, Bool.and_true, Bool.and_false]
          go_enter Tryz.func57, Tryz.ntmps57
          go_wp2
          go_ret
          exact ⟨rfl, HBo.out _⟩
        | true =>
          try simp only [Bool.true_and, Bool.and_true]
          go_enter Tryz.func57, Tryz.ntmps57
          go_wp2
          go_ret
          exact ⟨rfl, HBo.out _⟩
set_option maxRecDepth 100000 in
set_option maxHeartbeats 4000000 in
theorem ROwn_2 (e : Ex) (hok : OKe e) (A : Option Addr) (n c : Nat) (hn : e.l.length = n) (w : World) (h2 : e.k = 2) : Calls Tryz.prog 57 #[exV e A n c] w fun en w' => en = .returned (.bool (ownE e)) ∧ Below w.heap.size w w' := by
  have HB0 := Lib.hid (bal (bal (b0 w) (.cells (exC e A n c) 27)) (.cells #[.int .u8 (e.k : Int), .int .u8 0, .int .u8 0, .int .i32 0, .string ⟨#[]⟩, .slice none 0 0] 27))
  have HBs : Hid (∀ Y, Below ((w.alloc (.cells (exC e A n c) 27)).alloc (.cells #[.int .u8 (e.k : Int), .int .u8 0, .int .u8 0, .int .i32 0, .string (strOf e.s), .slice none 0 0] 27)).heap.size ((w.alloc (.cells (exC e A n c) 27)).alloc (.cells #[.int .u8 (e.k : Int), .int .u8 0, .int .u8 0, .int .i32 0, .string (strOf e.s), .slice none 0 0] 27)) Y → Below w.heap.size w Y ∧ BoxS Y w.heap.size 27 (exC e A n c) ∧ BoxS Y (w.heap.size + 1) 27 #[.int .u8 (e.k : Int), .int .u8 0, .int .u8 0, .int .i32 0, .string (strOf e.s), .slice none 0 0]) := Lib.hid (by
    intro Y b
    have h2 := boxS_new (w.alloc (.cells (exC e A n c) 27)) 27 #[.int .u8 (e.k : Int), .int .u8 0, .int .u8 0, .int .i32 0, .string (strOf e.s), .slice none 0 0]
    rw [World.size_alloc] at h2
    exact ⟨blw (bal (bal (b0 w) _) _) b, ((boxS_new w _ _).alloc _).below b, h2.below b⟩)
  have HBo : Hid (∀ cs : Array Value, Below w.heap.size w ((w.alloc (.cells (exC e A n c) 27)).alloc (.cells cs 27))) := Lib.hid fun cs => bal (bal (b0 w) _) _
  have CN := Lib.hid (fun (W : World) => RName_any e.s hok.2.2.2.2.2 W)
  have CP := Lib.hid (fun (W : World) => RPrimX_any e.t W)
  have ho0 : (0 : Int) ≤ (e.o : Int) := by omega
  have q1 : ((e.k : Int) == 1) = decide (e.k = 1) := nat_eq10 _ 1
  have q2 : ((e.k : Int) == 2) = decide (e.k = 2) := nat_eq10 _ 2
  have q3 : ((e.k : Int) == 3) = decide (e.k = 3) := nat_eq10 _ 3
  have q4 : ((e.k : Int) == 4) = decide (e.k = 4) := nat_eq10 _ 4
  have q5 : ((e.k : Int) == 5) = decide (e.k = 5) := nat_eq10 _ 5
  have q6 : ((e.k : Int) == 6) = decide (e.k = 6) := nat_eq10 _ 6
  have q7 : ((e.k : Int) == 7) = decide (e.k = 7) := nat_eq10 _ 7
  have q8 : ((e.k : Int) == 8) = decide (e.k = 8) := nat_eq10 _ 8
  have q9 : ((e.k : Int) == 9) = decide (e.k = 9) := nat_eq10 _ 9
  have r0 : ((n : Int) == 0) = decide (n = 0) := nat_eq10 _ 0
  have r1 : ((n : Int) == 1) = decide (n = 1) := nat_eq10 _ 1
  have r2 : ((n : Int) == 2) = decide (n = 2) := nat_eq10 _ 2
  have tz0 : ((e.o : Int) == 0) = decide (e.o = 0) := nat_eq10 _ 0
  have tt : ((e.t : Int) == 0) = decide (e.t = 0) := nat_eq10 _ 0
  have tn : (e.n == 0) = decide (e.n = 0) := by by_cases h : e.n = 0 <;> simp [h]
  have tn1 : (e.n == 1) = decide (e.n = 1) := by by_cases h : e.n = 1 <;> simp [h]
  have ts := eq_nil10 e.s
  have d23 : decide (23 ≤ e.o) = decide ((23 : Int) ≤ (e.o : Int)) := decide_eq_decide.2 (by omega)
  have d26 : decide (e.o ≤ 26) = decide ((e.o : Int) ≤ 26) := decide_eq_decide.2 (by omega)
  have d1 : decide (1 ≤ e.o) = decide ((1 : Int) ≤ (e.o : Int)) := decide_eq_decide.2 (by omega)
  have d22 : decide (e.o ≤ 22) = decide ((e.o : Int) ≤ 22) := decide_eq_decide.2 (by omega)
  clear hok
  dsimp only [exV, exC] at *
  rw [own_is2 h2, hn]
  rw [decide_eq_true h2] at q2
  rw [decide_eq_false (show ¬ e.k = 1 by omega)] at q1
  rw [decide_eq_false (show ¬ e.k = 3 by omega)] at q3
  rw [decide_eq_false (show ¬ e.k = 4 by omega)] at q4
  rw [decide_eq_false (show ¬ e.k = 5 by omega)] at q5
  rw [decide_eq_false (show ¬ e.k = 6 by omega)] at q6
  rw [decide_eq_false (show ¬ e.k = 7 by omega)] at q7
  rw [decide_eq_false (show ¬ e.k = 8 by omega)] at q8
  rw [decide_eq_false (show ¬ e.k = 9 by omega)] at q9
  clear h2
  clear CN CP HBs
  by_cases g1 : 0 ≤ e.n <;> by_cases g2 : e.n ≤ 255
  all_goals try (exfalso; omega)
  all_goals simp only [g1, g2, decide_true, decide_false, Bool.true_and, Bool.false_and, Bool.and_false]
  all_goals generalize decide (n = 0) = bl at *
  all_goals generalize decide (e.o = 0) = bo at *
  all_goals generalize decide (e.t = 0) = bt at *
  all_goals generalize decide (e.s = []) = bs at *
  all_goals generalize strOf e.s = S at *
  · cases bl with
    | false =>
      try simp only [Bool.false_and, Bool.true_and, Bool.and_true, Bool.and_false]
      go_enter Tryz.func57, Tryz.ntmps57
      go_wp2
      go_ret
      exact ⟨rfl, HBo.out _⟩
    | true =>
      try simp only [Bool.true_and, Bool.and_true]
      cases bo with
      | false =>
        try simp only [Bool.false_and, Bool.true_and, Bool.and_true, Bool.and_false]
        go_enter Tryz.func57, Tryz.ntmps57
        go_wp2
        go_ret
        exact ⟨rfl, HBo.out _⟩
      | true =>
        try simp only [Bool.true_and, Bool.and_true]
        cases bt with
        | false =>
          try simp only [Bool.false_and, Bool.true_and, Bool.and_true, Bool.and_false]
          go_enter Tryz.func57, Tryz.ntmps57
          go_wp2
          go_ret
          exact ⟨rfl, HBo.out _⟩
        | true =>
          try simp only [Bool.true_and, Bool.and_true]
          cases bs with
          | false =>
            try simp only [Bool.false_and, Bool.true_and, Bool.and_true, Bool.and_false]
            go_enter Tryz.func57, Tryz.ntmps57
            go_wp2
            go_ret
            exact ⟨rfl, HBo.out _⟩
          | true =>
            try simp only [Bool.true_and, Bool.and_true]
            go_enter Tryz.func57, Tryz.ntmps57
            go_wp2
            go_ret
            exact ⟨rfl, HBo.out _⟩
  · go_enter Tryz.func57, Tryz.ntmps57
    go_wp2
    go_ret
    exact ⟨rfl, HBo.out _⟩
  · go_enter Tryz.func57, Tryz.ntmps57
    go_wp2
    go_ret
    exact ⟨rfl, HBo.out _⟩
set_option maxRecDepth 100000 in
set_option maxHeartbeats 4000000 in
theorem ROwn_3 (e : Ex) (hok : OKe e) (A : Option Addr) (n c : Nat) (hn : e.l.length = n) (w : World) (h3 : e.k = 3) : Calls Tryz.prog 57 #[exV e A n c] w fun en w' => en = .returned (.bool (ownE e)) ∧ Below w.heap.size w w' := by
  have HB0 := Lib.hid (bal (bal (b0 w) (.cells (exC e A n c) 27)) (.cells #[.int .u8 (e.k : Int), .int .u8 0, .int .u8 0, .int .i32 0, .string ⟨#[]⟩, .slice none 0 0] 27))
  have HBs : Hid (∀ Y, Below ((w.alloc (.cells (exC e A n c) 27)).alloc (.cells #[.int .u8 (e.k : Int), .int .u8 0, .int .u8 0, .int .i32 0, .string (strOf e.s), .slice none 0 0] 27)).heap.size ((w.alloc (.cells (exC e A n c) 27)).alloc (.cells #[.int .u8 (e.k : Int), .int .u8 0, .int .u8 0, .int .i32 0, .string (strOf e.s), .slice none 0 0] 27)) Y → Below w.heap.size w Y ∧ BoxS Y w.heap.size 27 (exC e A n c) ∧ BoxS Y (w.heap.size + 1) 27 #[.int .u8 (e.k : Int), .int .u8 0, .int .u8 0, .int .i32 0, .string (strOf e.s), .slice none 0 0]) := Lib.hid (by
    intro Y b
    have h2 := boxS_new (w.alloc (.cells (exC e A n c) 27)) 27 #[.int .u8 (e.k : Int), .int .u8 0, .int .u8 0, .int .i32 0, .string (strOf e.s), .slice none 0 0]
    rw [World.size_alloc] at h2
    exact ⟨blw (bal (bal (b0 w) _) _) b, ((boxS_new w _ _).alloc _).below b, h2.below b⟩)
  have HBo : Hid (∀ cs : Array Value, Below w.heap.size w ((w.alloc (.cells (exC e A n c) 27)).alloc (.cells cs 27))) := Lib.hid fun cs => bal (bal (b0 w) _) _
  have CN := Lib.hid (fun (W : World) => RName_any e.s hok.2.2.2.2.2 W)
  have CP := Lib.hid (fun (W : World) => RPrimX_any e.t W)
  have ho0 : (0 : Int) ≤ (e.o : Int) := by omega
  have q1 : ((e.k : Int) == 1) = decide (e.k = 1) := nat_eq10 _ 1
  have q2 : ((e.k : Int) == 2) = decide (e.k = 2) := nat_eq10 _ 2
  have q3 : ((e.k : Int) == 3) = decide (e.k = 3) := nat_eq10 _ 3
  have q4 : ((e.k : Int) == 4) = decide (e.k = 4) := nat_eq10 _ 4
  have q5 : ((e.k : Int) == 5) = decide (e.k = 5) := nat_eq10 _ 5
  have q6 : ((e.k : Int) == 6) = decide (e.k = 6) := nat_eq10 _ 6
  have q7 : ((e.k : Int) == 7) = decide (e.k = 7) := nat_eq10 _ 7
  have q8 : ((e.k : Int) == 8) = decide (e.k = 8) := nat_eq10 _ 8
  have q9 : ((e.k : Int) == 9) = decide (e.k = 9) := nat_eq10 _ 9
  have r0 : ((n : Int) == 0) = decide (n = 0) := nat_eq10 _ 0
  have r1 : ((n : Int) == 1) = decide (n = 1) := nat_eq10 _ 1
  have r2 : ((n : Int) == 2) = decide (n = 2) := nat_eq10 _ 2
  have tz0 : ((e.o : Int) == 0) = decide (e.o = 0) := nat_eq10 _ 0
  have tt : ((e.t : Int) == 0) = decide (e.t = 0) := nat_eq10 _ 0
  have tn : (e.n == 0) = decide (e.n = 0) := by by_cases h : e.n = 0 <;> simp [h]
  have tn1 : (e.n == 1) = decide (e.n = 1) := by by_cases h : e.n = 1 <;> simp [h]
  have ts := eq_nil10 e.s
  have d23 : decide (23 ≤ e.o) = decide ((23 : Int) ≤ (e.o : Int)) := decide_eq_decide.2 (by omega)
  have d26 : decide (e.o ≤ 26) = decide ((e.o : Int) ≤ 26) := decide_eq_decide.2 (by omega)
  have d1 : decide (1 ≤ e.o) = decide ((1 : Int) ≤ (e.o : Int)) := decide_eq_decide.2 (by omega)
  have d22 : decide (e.o ≤ 22) = decide ((e.o : Int) ≤ 22) := decide_eq_decide.2 (by omega)
  clear hok
  dsimp only [exV, exC] at *
  rw [own_is3 h3, hn]
  rw [decide_eq_true h3] at q3
  rw [decide_eq_false (show ¬ e.k = 1 by omega)] at q1
  rw [decide_eq_false (show ¬ e.k = 2 by omega)] at q2
  rw [decide_eq_false (show ¬ e.k = 4 by omega)] at q4
  rw [decide_eq_false (show ¬ e.k = 5 by omega)] at q5
  rw [decide_eq_false (show ¬ e.k = 6 by omega)] at q6
  rw [decide_eq_false (show ¬ e.k = 7 by omega)] at q7
  rw [decide_eq_false (show ¬ e.k = 8 by omega)] at q8
  rw [decide_eq_false (show ¬ e.k = 9 by omega)] at q9
  clear h3
  all_goals generalize decide (n = 0) = bl at *
  all_goals generalize decide (e.o = 0) = bo at *
  all_goals generalize decide (e.t = 0) = bt at *
  all_goals generalize decide (e.s = []) = bs at *
  clear CN CP HBs
  generalize decide (e.n = 0) = b1 at *
  generalize decide (e.n = 1) = b2 at *
  all_goals generalize strOf e.s = S at *
  cases b1 <;> cases b2
  all_goals simp only [Bool.or_true, Bool.or_false, Bool.true_or, Bool.false_or, Bool.true_and, Bool.false_and]
  · go_enter Tryz.func57, Tryz.ntmps57
    go_wp2
    go_ret
    exact ⟨rfl, HBo.out _⟩
  · cases bl with
    | false =>
      try simp only [Bool.false_and, Bool.true_and, Bool.and_true, Bool.and_false]
      go_enter Tryz.func57, Tryz.ntmps57
      go_wp2
      go_ret
      exact ⟨rfl, HBo.out _⟩
    | true =>
      try simp only [Bool.true_and, Bool.and_true]
      cases bo with
      | false =>
        try simp only [Bool.false_and, Bool.true_and, Bool.and_true, Bool.and_false]
        go_enter Tryz.func57, Tryz.ntmps57
        go_wp2
        go_ret
        exact ⟨rfl, HBo.out _⟩
      | true =>
        try simp only [Bool.true_and, Bool.and_true]
        cases bt with
        | false =>
          try simp only [Bool.false_and, Bool.true_and, Bool.and_true, Bool.and_false]
          go_enter Tryz.func57, Tryz.ntmps57
          go_wp2
          go_ret
          exact ⟨rfl, HBo.out _⟩
        | true =>
          try simp only [Bool.true_and, Bool.and_true]
          cases bs with
          | false =>
            try simp only [Bool.false_and, Bool.true_and, Bool.and_true, Bool.and_false]
            go_enter Tryz.func57, Tryz.ntmps57
            go_wp2
            go_ret
            exact ⟨rfl, HBo.out _⟩
          | true =>
            try simp only [Bool.true_and, Bool.and_true]
            go_enter Tryz.func57, Tryz.ntmps57
            go_wp2
            go_ret
            exact ⟨rfl, HBo.out _⟩
  · cases bl with
    | false =>
      try simp only [Bool.false_and, Bool.true_and, Bool.and_true, Bool.and_false]
      go_enter Tryz.func57, Tryz.ntmps57
      go_wp2
      go_ret
      exact ⟨rfl, HBo.out _⟩
    | true =>
      try simp only [Bool.true_and, Bool.and_true]
      cases bo with
      | false =>
        try simp only [Bool.false_and, Bool.true_and, Bool.and_true, Bool.and_false]
        go_enter Tryz.func57, Tryz.ntmps57
        go_wp2
        go_ret
        exact ⟨rfl, HBo.out _⟩
      | true =>
        try simp only [Bool.true_and, Bool.and_true]
        cases bt with
        | false =>
          try simp only [Bool.false_and, Bool.true_and, Bool.and_true, Bool.and_false]
          go_enter Tryz.func57, Tryz.ntmps57
          go_wp2
          go_ret
          exact ⟨rfl, HBo.out _⟩
        | true =>
          try simp only [Bool.true_and, Bool.and_true]
          cases bs with
          | false =>
            try simp only [Bool.false_and, Bool.true_and, Bool.and_true, Bool.and_false]
            go_enter Tryz.func57, Tryz.ntmps57
            go_wp2
            go_ret
            exact ⟨rfl, HBo.out _⟩
          | true =>
            try simp only [Bool.true_and, Bool.and_true]
            go_enter Tryz.func57, Tryz.ntmps57
            go_wp2
            go_ret
            exact ⟨rfl, HBo.out _⟩
  · cases bl with
    | false =>
      try simp only [Bool.false_and, Bool.true_and, Bool.and_true, Bool.and_false]
      go_enter Tryz.func57, Tryz.ntmps57
      go_wp2
      go_ret
      exact ⟨rfl, HBo.out _⟩
    | true =>
      try simp only [Bool.true_and, Bool.and_true]
      cases bo with
      | false =>
        try simp only [Bool.false_and, Bool.true_and, Bool.and_true, Bool.and_false]
        go_enter Tryz.func57, Tryz.ntmps57
        go_wp2
        go_ret
        exact ⟨rfl, HBo.out _⟩
      | true =>
        try simp only [Bool.true_and, Bool.and_true]
        cases bt with
        | false =>
          try simp only [Bool.false_and, Bool.true_and, Bool.and_true, Bool.and_false]
          go_enter Tryz.func57, Tryz.ntmps57
          go_wp2
          go_ret
          exact ⟨rfl, HBo.out _⟩
        | true =>
          try simp only [Bool.true_and, Bool.and_true]
          cases bs with
          | false =>
            try simp only [Bool.false_and, Bool.true_and, Bool.and_true, Bool.and_false]
            go_enter Tryz.func57, Tryz.ntmps57
            go_wp2
            go_ret
            exact ⟨rfl, HBo.out _⟩
          | true =>
            try simp only [Bool.true_and, Bool.and_true]
            go_enter Tryz.func57, Tryz.ntmps57
            go_wp2
            go_ret
            exact ⟨rfl, HBo.out _⟩
end Go.Proofs.YtplcmcealeeppaaGreatDoor
/- The reference: the fields that a kind has (kinds 4 tz0 6). -/
set_option linter.unusedVariables false
set_option linter.unusedSimpArgs false
namespace Go.Proofs.YtplcmcealeeppaaGreatDoor
open Go Go.RowKit L8 L10

set_option maxRecDepth 100000 in
set_option maxHeartbeats 4000000 in
theorem ROwn_4 (e : Ex) (hok : OKe e) (A : Option Addr) (n c : Nat) (hn : e.l.length = n) (w : World) (h4 : e.k = 4) : Calls Tryz.prog 57 #[exV e A n c] w fun en w' => en = .returned (.bool (ownE e)) ∧ Below w.heap.size w w' := by
  have HB0 := Lib.hid (bal (bal (b0 w) (.cells (exC e A n c) 27)) (.cells #[.int .u8 (e.k : Int), .int .u8 0, .int .u8 0, .int .i32 0, .string ⟨#[]⟩, .slice none 0 0] 27))
  have HBs : Hid (∀ Y, Below ((w.alloc (.cells (exC e A n c) 27)).alloc (.cells #[.int .u8 (e.k : Int), .int .u8 0, .int .u8 0, .int .i32 0, .string (strOf e.s), .slice none 0 0] 27)).heap.size ((w.alloc (.cells (exC e A n c) 27)).alloc (.cells #[.int .u8 (e.k : Int), .int .u8 0, .int .u8 0, .int .i32 0, .string (strOf e.s), .slice none 0 0] 27)) Y → Below w.heap.size w Y ∧ BoxS Y w.heap.size 27 (exC e A n c) ∧ BoxS Y (w.heap.size + 1) 27 #[.int .u8 (e.k : Int), .int .u8 0, .int .u8 0, .int .i32 0, .string (strOf e.s), .slice none 0 0]) := Lib.hid (by
    intro Y b
    have h2 := boxS_new (w.alloc (.cells (exC e A n c) 27)) 27 #[.int .u8 (e.k : Int), .int .u8 0, .int .u8 0, .int .i32 0, .string (strOf e.s), .slice none 0 0]
    rw [World.size_alloc] at h2
    exact ⟨blw (bal (bal (b0 w) _) _) b, ((boxS_new w _ _).alloc _).below b, h2.below b⟩)
  have HBo : Hid (∀ cs : Array Value, Below w.heap.size w ((w.alloc (.cells (exC e A n c) 27)).alloc (.cells cs 27))) := Lib.hid fun cs => bal (bal (b0 w) _) _
  have CN := Lib.hid (fun (W : World) => RName_any e.s hok.2.2.2.2.2 W)
  have CP := Lib.hid (fun (W : World) => RPrimX_any e.t W)
  have ho0 : (0 : Int) ≤ (e.o : Int) := by omega
  have q1 : ((e.k : Int) == 1) = decide (e.k = 1) := nat_eq10 _ 1
  have q2 : ((e.k : Int) == 2) = decide (e.k = 2) := nat_eq10 _ 2
  have q3 : ((e.k : Int) == 3) = decide (e.k = 3) := nat_eq10 _ 3
  have q4 : ((e.k : Int) == 4) = decide (e.k = 4) := nat_eq10 _ 4
  have q5 : ((e.k : Int) == 5) = decide (e.k = 5) := nat_eq10 _ 5
  have q6 : ((e.k : Int) == 6) = decide (e.k = 6) := nat_eq10 _ 6
  have q7 : ((e.k : Int) == 7) = decide (e.k = 7) := nat_eq10 _ 7
  have q8 : ((e.k : Int) == 8) = decide (e.k = 8) := nat_eq10 _ 8
  have q9 : ((e.k : Int) == 9) = decide (e.k = 9) := nat_eq10 _ 9
  have r0 : ((n : Int) == 0) = decide (n = 0) := nat_eq10 _ 0
  have r1 : ((n : Int) == 1) = decide (n = 1) := nat_eq10 _ 1
  have r2 : ((n : Int) == 2) = decide (n = 2) := nat_eq10 _ 2
  have tz0 : ((e.o : Int) == 0) = decide (e.o = 0) := nat_eq10 _ 0
  have tt : ((e.t : Int) == 0) = decide (e.t = 0) := nat_eq10 _ 0
  have tn : (e.n == 0) = decide (e.n = 0) := by by_cases h : e.n = 0 <;> simp [h]
  have tn1 : (e.n == 1) = decide (e.n = 1) := by by_cases h : e.n = 1 <;> simp [h]
  have ts := eq_nil10 e.s
  have d23 : decide (23 ≤ e.o) = decide ((23 : Int) ≤ (e.o : Int)) := decide_eq_decide.2 (by omega)
  have d26 : decide (e.o ≤ 26) = decide ((e.o : Int) ≤ 26) := decide_eq_decide.2 (by omega)
  have d1 : decide (1 ≤ e.o) = decide ((1 : Int) ≤ (e.o : Int)) := decide_eq_decide.2 (by omega)
  have d22 : decide (e.o ≤ 22) = decide ((e.o : Int) ≤ 22) := decide_eq_decide.2 (by omega)
  clear hok
  dsimp only [exV, exC] at *
  rw [own_is4 h4, hn]
  rw [decide_eq_true h4] at q4
  rw [decide_eq_false (show ¬ e.k = 1 by omega)] at q1
  rw [decide_eq_false (show ¬ e.k = 2 by omega)] at q2
  rw [decide_eq_false (show ¬ e.k = 3 by omega)] at q3
  rw [decide_eq_false (show ¬ e.k = 5 by omega)] at q5
  rw [decide_eq_false (show ¬ e.k = 6 by omega)] at q6
  rw [decide_eq_false (show ¬ e.k = 7 by omega)] at q7
  rw [decide_eq_false (show ¬ e.k = 8 by omega)] at q8
  rw [decide_eq_false (show ¬ e.k = 9 by omega)] at q9
  clear h4
  all_goals generalize decide (n = 0) = bl at *
  all_goals generalize decide (e.o = 0) = bo at *
  all_goals generalize decide (e.t = 0) = bt at *
  all_goals generalize decide (e.n = 0) = bn at *
  clear CP
  generalize isName e.s = bf at *
  generalize strOf e.s = S at *
  cases bf with
  | false =>
    try simp only [Bool.false_and, Bool.true_and, Bool.and_true, Bool.and_false]
    go_enter Tryz.func57, Tryz.ntmps57
    go_wp2_with (go_at_call 53; (with_reducible refine (CN.out _).mono ?_); rintro en w2 ⟨rfl, b⟩; have H2 := Lib.hid (HBs.out _ b); clear b; obtain ⟨x0, x1, x2, x3, x4, x5⟩ := box6 H2.out.2.1; obtain ⟨y0, y1, y2, y3, y4, y5⟩ := box6 H2.out.2.2)
    go_ret
    exact ⟨rfl, H2.out.1⟩
  | true =>
    try simp only [Bool.true_and, Bool.and_true]
    cases bl with
    | false =>
      try simp only [Bool.false_and, Bool.true_and, Bool.and_true, Bool.and_false]
      go_enter Tryz.func57, Tryz.ntmps57
      go_wp2_with (go_at_call 53; (with_reducible refine (CN.out _).mono ?_); rintro en w2 ⟨rfl, b⟩; have H2 := Lib.hid (HBs.out _ b); clear b; obtain ⟨x0, x1, x2, x3, x4, x5⟩ := box6 H2.out.2.1; obtain ⟨y0, y1, y2, y3, y4, y5⟩ := box6 H2.out.2.2)
      go_ret
      exact ⟨rfl, H2.out.1⟩
    | true =>
      try simp only [Bool.true_and, Bool.and_true]
      cases bo with
      | false =>
        try simp only [Bool.false_and, Bool.true_and, Bool.and_true, Bool.and_false]
        go_enter Tryz.func57, Tryz.ntmps57
        go_wp2_with (go_at_call 53; (with_reducible refine (CN.out _).mono ?_); rintro en w2 ⟨rfl, b⟩; have H2 := Lib.hid (HBs.out _ b); clear b; obtain ⟨x0, x1, x2, x3, x4, x5⟩ := box6 H2.out.2.1; obtain ⟨y0, y1, y2, y3, y4, y5⟩ := box6 H2.out.2.2)
        go_ret
        exact ⟨rfl, H2.out.1⟩
      | true =>
        try simp only [Bool.true_and, Bool.and_true]
        cases bt with
        | false =>
          try simp only [Bool.false_and, Bool.true_and, Bool.and_true, Bool.and_false]
          go_enter Tryz.func57, Tryz.ntmps57
          go_wp2_with (go_at_call 53; (with_reducible refine (CN.out _).mono ?_); rintro en w2 ⟨rfl, b⟩; have H2 := Lib.hid (HBs.out _ b); clear b; obtain ⟨x0, x1, x2, x3, x4, x5⟩ := box6 H2.out.2.1; obtain ⟨y0, y1, y2, y3, y4, y5⟩ := box6 H2.out.2.2)
          go_ret
          exact ⟨rfl, H2.out.1⟩
        | true =>
          try simp only [Bool.true_and, Bool.and_true]
          cases bn with
          | false =>
            try simp only [Bool.false_and, Bool.true_and, Bool.and_true, Bool.and_false]
            go_enter Tryz.func57, Tryz.ntmps57
            go_wp2_with (go_at_call 53; (with_reducible refine (CN.out _).mono ?_); rintro en w2 ⟨rfl, b⟩; have H2 := Lib.hid (HBs.out _ b); clear b; obtain ⟨x0, x1, x2, x3, x4, x5⟩ := box6 H2.out.2.1; obtain ⟨y0, y1, y2, y3, y4, y5⟩ := box6 H2.out.2.2)
            go_ret
            exact ⟨rfl, H2.out.1⟩
          | true =>
            try simp only [Bool.true_and, Bool.and_true]
            go_enter Tryz.func57, Tryz.ntmps57
            go_wp2_with (go_at_call 53; (with_reducible refine (CN.out _).mono ?_); rintro en w2 ⟨rfl, b⟩; have H2 := Lib.hid (HBs.out _ b); clear b; obtain ⟨x0, x1, x2, x3, x4, x5⟩ := box6 H2.out.2.1; obtain ⟨y0, y1, y2, y3, y4, y5⟩ := box6 H2.out.2.2)
            go_ret
            exact ⟨rfl, H2.out.1⟩
set_option maxRecDepth 100000 in
set_option maxHeartbeats 4000000 in
theorem ROwn_5 (e : Ex) (hok : OKe e) (A : Option Addr) (n c : Nat) (hn : e.l.length = n) (w : World) (h5 : e.k = 5) : Calls Tryz.prog 57 #[exV e A n c] w fun en w' => en = .returned (.bool (ownE e)) ∧ Below w.heap.size w w' := by
  have HB0 := Lib.hid (bal (bal (b0 w) (.cells (exC e A n c) 27)) (.cells #[.int .u8 (e.k : Int), .int .u8 0, .int .u8 0, .int .i32 0, .string ⟨#[]⟩, .slice none 0 0] 27))
  have HBs : Hid (∀ Y, Below ((w.alloc (.cells (exC e A n c) 27)).alloc (.cells #[.int .u8 (e.k : Int), .int .u8 0, .int .u8 0, .int .i32 0, .string (strOf e.s), .slice none 0 0] 27)).heap.size ((w.alloc (.cells (exC e A n c) 27)).alloc (.cells #[.int .u8 (e.k : Int), .int .u8 0, .int .u8 0, .int .i32 0, .string (strOf e.s), .slice none 0 0] 27)) Y → Below w.heap.size w Y ∧ BoxS Y w.heap.size 27 (exC e A n c) ∧ BoxS Y (w.heap.size + 1) 27 #[.int .u8 (e.k : Int), .int .u8 0, .int .u8 0, .int .i32 0, .string (strOf e.s), .slice none 0 0]) := Lib.hid (by
    intro Y b
    have h2 := boxS_new (w.alloc (.cells (exC e A n c) 27)) 27 #[.int .u8 (e.k : Int), .int .u8 0, .int .u8 0, .int .i32 0, .string (strOf e.s), .slice none 0 0]
    rw [World.size_alloc] at h2
    exact ⟨blw (bal (bal (b0 w) _) _) b, ((boxS_new w _ _).alloc _).below b, h2.below b⟩)
  have HBo : Hid (∀ cs : Array Value, Below w.heap.size w ((w.alloc (.cells (exC e A n c) 27)).alloc (.cells cs 27))) := Lib.hid fun cs => bal (bal (b0 w) _) _
  have CN := Lib.hid (fun (W : World) => RName_any e.s hok.2.2.2.2.2 W)
  have CP := Lib.hid (fun (W : World) => RPrimX_any e.t W)
  have ho0 : (0 : Int) ≤ (e.o : Int) := by omega
  have q1 : ((e.k : Int) == 1) = decide (e.k = 1) := nat_eq10 _ 1
  have q2 : ((e.k : Int) == 2) = decide (e.k = 2) := nat_eq10 _ 2
  have q3 : ((e.k : Int) == 3) = decide (e.k = 3) := nat_eq10 _ 3
  have q4 : ((e.k : Int) == 4) = decide (e.k = 4) := nat_eq10 _ 4
  have q5 : ((e.k : Int) == 5) = decide (e.k = 5) := nat_eq10 _ 5
  have q6 : ((e.k : Int) == 6) = decide (e.k = 6) := nat_eq10 _ 6
  have q7 : ((e.k : Int) == 7) = decide (e.k = 7) := nat_eq10 _ 7
  have q8 : ((e.k : Int) == 8) = decide (e.k = 8) := nat_eq10 _ 8
  have q9 : ((e.k : Int) == 9) = decide (e.k = 9) := nat_eq10 _ 9
  have r0 : ((n : Int) == 0) = decide (n = 0) := nat_eq10 _ 0
  have r1 : ((n : Int) == 1) = decide (n = 1) := nat_eq10 _ 1
  have r2 : ((n : Int) == 2) = decide (n = 2) := nat_eq10 _ 2
  have tz0 : ((e.o : Int) == 0) = decide (e.o = 0) := nat_eq10 _ 0
  have tt : ((e.t : Int) == 0) = decide (e.t = 0) := nat_eq10 _ 0
  have tn : (e.n == 0) = decide (e.n = 0) := by by_cases h : e.n = 0 <;> simp [h]
  have tn1 : (e.n == 1) = decide (e.n = 1) := by by_cases h : e.n = 1 <;> simp [h]
  have ts := eq_nil10 e.s
  have d23 : decide (23 ≤ e.o) = decide ((23 : Int) ≤ (e.o : Int)) := decide_eq_decide.2 (by omega)
  have d26 : decide (e.o ≤ 26) = decide ((e.o : Int) ≤ 26) := decide_eq_decide.2 (by omega)
  have d1 : decide (1 ≤ e.o) = decide ((1 : Int) ≤ (e.o : Int)) := decide_eq_decide.2 (by omega)
  have d22 : decide (e.o ≤ 22) = decide ((e.o : Int) ≤ 22) := decide_eq_decide.2 (by omega)
  clear hok
  dsimp only [exV, exC] at *
  rw [own_is5 h5, hn]
  rw [decide_eq_true h5] at q5
  rw [decide_eq_false (show ¬ e.k = 1 by omega)] at q1
  rw [decide_eq_false (show ¬ e.k = 2 by omega)] at q2
  rw [decide_eq_false (show ¬ e.k = 3 by omega)] at q3
  rw [decide_eq_false (show ¬ e.k = 4 by omega)] at q4
  rw [decide_eq_false (show ¬ e.k = 6 by omega)] at q6
  rw [decide_eq_false (show ¬ e.k = 7 by omega)] at q7
  rw [decide_eq_false (show ¬ e.k = 8 by omega)] at q8
  rw [decide_eq_false (show ¬ e.k = 9 by omega)] at q9
  clear h5
  all_goals generalize decide (n = 1) = bl at *
  all_goals generalize decide (e.o = 0) = bo at *
  all_goals generalize decide (e.t = 0) = bt at *
  all_goals generalize decide (e.n = 0) = bn at *
  clear CP
  generalize isName e.s = bf at *
  generalize strOf e.s = S at *
  cases bf with
  | false =>
    try simp only [Bool.false_and, Bool.true_and, Bool.and_true, Bool.and_false]
    go_enter Tryz.func57, Tryz.ntmps57
    go_wp2_with (go_at_call 53; (with_reducible refine (CN.out _).mono ?_); rintro en w2 ⟨rfl, b⟩; have H2 := Lib.hid (HBs.out _ b); clear b; obtain ⟨x0, x1, x2, x3, x4, x5⟩ := box6 H2.out.2.1; obtain ⟨y0, y1, y2, y3, y4, y5⟩ := box6 H2.out.2.2)
    go_ret
    exact ⟨rfl, H2.out.1⟩
  | true =>
    try simp only [Bool.true_and, Bool.and_true]
    cases bl with
    | false =>
      try simp only [Bool.false_and, Bool.true_and, Bool.and_true, Bool.and_false]
      go_enter Tryz.func57, Tryz.ntmps57
      go_wp2_with (go_at_call 53; (with_reducible refine (CN.out _).mono ?_); rintro en w2 ⟨rfl, b⟩; have H2 := Lib.hid (HBs.out _ b); clear b; obtain ⟨x0, x1, x2, x3, x4, x5⟩ := box6 H2.out.2.1; obtain ⟨y0, y1, y2, y3, y4, y5⟩ := box6 H2.out.2.2)
      go_ret
      exact ⟨rfl, H2.out.1⟩
    | true =>
      try simp only [Bool.true_and, Bool.and_true]
      cases bo with
      | false =>
        try simp only [Bool.false_and, Bool.true_and, Bool.and_true, Bool.and_false]
        go_enter Tryz.func57, Tryz.ntmps57
        go_wp2_with (go_at_call 53; (with_reducible refine (CN.out _).mono ?_); rintro en w2 ⟨rfl, b⟩; have H2 := Lib.hid (HBs.out _ b); clear b; obtain ⟨x0, x1, x2, x3, x4, x5⟩ := box6 H2.out.2.1; obtain ⟨y0, y1, y2, y3, y4, y5⟩ := box6 H2.out.2.2)
        go_ret
        exact ⟨rfl, H2.out.1⟩
      | true =>
        try simp only [Bool.true_and, Bool.and_true]
        cases bt with
        | false =>
          try simp only [Bool.false_and, Bool.true_and, Bool.and_true, Bool.and_false]
          go_enter Tryz.func57, Tryz.ntmps57
          go_wp2_with (go_at_call 53; (with_reducible refine (CN.out _).mono ?_); rintro en w2 ⟨rfl, b⟩; have H2 := Lib.hid (HBs.out _ b); clear b; obtain ⟨x0, x1, x2, x3, x4, x5⟩ := box6 H2.out.2.1; obtain ⟨y0, y1, y2, y3, y4, y5⟩ := box6 H2.out.2.2)
          go_ret
          exact ⟨rfl, H2.out.1⟩
        | true =>
          try simp only [Bool.true_and, Bool.and_true]
          cases bn with
          | false =>
            try simp only [Bool.false_and, Bool.true_and, Bool.and_true, Bool.and_false]
            go_enter Tryz.func57, Tryz.ntmps57
            go_wp2_with (go_at_call 53; (with_reducible refine (CN.out _).mono ?_); rintro en w2 ⟨rfl, b⟩; have H2 := Lib.hid (HBs.out _ b); clear b; obtain ⟨x0, x1, x2, x3, x4, x5⟩ := box6 H2.out.2.1; obtain ⟨y0, y1, y2, y3, y4, y5⟩ := box6 H2.out.2.2)
            go_ret
            exact ⟨rfl, H2.out.1⟩
          | true =>
            try simp only [Bool.true_and, Bool.and_true]
            go_enter Tryz.func57, Tryz.ntmps57
            go_wp2_with (go_at_call 53; (with_reducible refine (CN.out _).mono ?_); rintro en w2 ⟨rfl, b⟩; have H2 := Lib.hid (HBs.out _ b); clear b; obtain ⟨x0, x1, x2, x3, x4, x5⟩ := box6 H2.out.2.1; obtain ⟨y0, y1, y2, y3, y4, y5⟩ := box6 H2.out.2.2)
            go_ret
            exact ⟨rfl, H2.out.1⟩
set_option maxRecDepth 100000 in
set_option maxHeartbeats 4000000 in
theorem ROwn_6 (e : Ex) (hok : OKe e) (A : Option Addr) (n c : Nat) (hn : e.l.length = n) (w : World) (h6 : e.k = 6) : Calls Tryz.prog 57 #[exV e A n c] w fun en w' => en = .returned (.bool (ownE e)) ∧ Below w.heap.size w w' := by
  have HB0 := Lib.hid (bal (bal (b0 w) (.cells (exC e A n c) 27)) (.cells #[.int .u8 (e.k : Int), .int .u8 0, .int .u8 0, .int .i32 0, .string ⟨#[]⟩, .slice none 0 0] 27))
  have HBs : Hid (∀ Y, Below ((w.alloc (.cells (exC e A n c) 27)).alloc (.cells #[.int .u8 (e.k : Int), .int .u8 0, .int .u8 0, .int .i32 0, .string (strOf e.s), .slice none 0 0] 27)).heap.size ((w.alloc (.cells (exC e A n c) 27)).alloc (.cells #[.int .u8 (e.k : Int), .int .u8 0, .int .u8 0, .int .i32 0, .string (strOf e.s), .slice none 0 0] 27)) Y → Below w.heap.size w Y ∧ BoxS Y w.heap.size 27 (exC e A n c) ∧ BoxS Y (w.heap.size + 1) 27 #[.int .u8 (e.k : Int), .int .u8 0, .int .u8 0, .int .i32 0, .string (strOf e.s), .slice none 0 0]) := Lib.hid (by
    intro Y b
    have h2 := boxS_new (w.alloc (.cells (exC e A n c) 27)) 27 #[.int .u8 (e.k : Int), .int .u8 0, .int .u8 0, .int .i32 0, .string (strOf e.s), .slice none 0 0]
    rw [World.size_alloc] at h2
    exact ⟨blw (bal (bal (b0 w) _) _) b, ((boxS_new w _ _).alloc _).below b, h2.below b⟩)
  have HBo : Hid (∀ cs : Array Value, Below w.heap.size w ((w.alloc (.cells (exC e A n c) 27)).alloc (.cells cs 27))) := Lib.hid fun cs => bal (bal (b0 w) _) _
  have CN := Lib.hid (fun (W : World) => RName_any e.s hok.2.2.2.2.2 W)
  have CP := Lib.hid (fun (W : World) => RPrimX_any e.t W)
  have ho0 : (0 : Int) ≤ (e.o : Int) := by omega
  have q1 : ((e.k : Int) == 1) = decide (e.k = 1) := nat_eq10 _ 1
  have q2 : ((e.k : Int) == 2) = decide (e.k = 2) := nat_eq10 _ 2
  have q3 : ((e.k : Int) == 3) = decide (e.k = 3) := nat_eq10 _ 3
  have q4 : ((e.k : Int) == 4) = decide (e.k = 4) := nat_eq10 _ 4
  have q5 : ((e.k : Int) == 5) = decide (e.k = 5) := nat_eq10 _ 5
  have q6 : ((e.k : Int) == 6) = decide (e.k = 6) := nat_eq10 _ 6
  have q7 : ((e.k : Int) == 7) = decide (e.k = 7) := nat_eq10 _ 7
  have q8 : ((e.k : Int) == 8) = decide (e.k = 8) := nat_eq10 _ 8
  have q9 : ((e.k : Int) == 9) = decide (e.k = 9) := nat_eq10 _ 9
  have r0 : ((n : Int) == 0) = decide (n = 0) := nat_eq10 _ 0
  have r1 : ((n : Int) == 1) = decide (n = 1) := nat_eq10 _ 1
  have r2 : ((n : Int) == 2) = decide (n = 2) := nat_eq10 _ 2
  have tz0 : ((e.o : Int) == 0) = decide (e.o = 0) := nat_eq10 _ 0
  have tt : ((e.t : Int) == 0) = decide (e.t = 0) := nat_eq10 _ 0
  have tn : (e.n == 0) = decide (e.n = 0) := by by_cases h : e.n = 0 <;> simp [h]
  have tn1 : (e.n == 1) = decide (e.n = 1) := by by_cases h : e.n = 1 <;> simp [h]
  have ts := eq_nil10 e.s
  have d23 : decide (23 ≤ e.o) = decide ((23 : Int) ≤ (e.o : Int)) := decide_eq_decide.2 (by omega)
  have d26 : decide (e.o ≤ 26) = decide ((e.o : Int) ≤ 26) := decide_eq_decide.2 (by omega)
  have d1 : decide (1 ≤ e.o) = decide ((1 : Int) ≤ (e.o : Int)) := decide_eq_decide.2 (by omega)
  have d22 : decide (e.o ≤ 22) = decide ((e.o : Int) ≤ 22) := decide_eq_decide.2 (by omega)
  clear hok
  dsimp only [exV, exC] at *
  rw [own_is6 h6, hn]
  rw [decide_eq_true h6] at q6
  rw [decide_eq_false (show ¬ e.k = 1 by omega)] at q1
  rw [decide_eq_false (show ¬ e.k = 2 by omega)] at q2
  rw [decide_eq_false (show ¬ e.k = 3 by omega)] at q3
  rw [decide_eq_false (show ¬ e.k = 4 by omega)] at q4
  rw [decide_eq_false (show ¬ e.k = 5 by omega)] at q5
  rw [decide_eq_false (show ¬ e.k = 7 by omega)] at q7
  rw [decide_eq_false (show ¬ e.k = 8 by omega)] at q8
  rw [decide_eq_false (show ¬ e.k = 9 by omega)] at q9
  clear h6
  rw [d23, d26]
  clear CN CP HBs d23 d26 d1 d22
  by_cases g1 : (23 : Int) ≤ (e.o : Int) <;> by_cases g2 : (e.o : Int) ≤ 26
  all_goals try (exfalso; omega)
  all_goals simp only [g1, g2, decide_true, decide_false, Bool.true_and, Bool.false_and, Bool.and_false]
  all_goals generalize decide (n = 1) = bl at *
  all_goals generalize decide (e.t = 0) = bt at *
  all_goals generalize decide (e.n = 0) = bn at *
  all_goals generalize decide (e.s = []) = bs at *
  all_goals generalize strOf e.s = S at *
  · cases bl with
    | false =>
      try simp only [Bool.false_and, Bool.true_and, Bool.and_true, Bool.and_false]
      go_enter Tryz.func57, Tryz.ntmps57
      go_wp2
      go_ret
      exact ⟨rfl, HBo.out _⟩
    | true =>
      try simp only [Bool.true_and, Bool.and_true]
      cases bt with
      | false =>
        try simp only [Bool.false_and, Bool.true_and, Bool.and_true, Bool.and_false]
        go_enter Tryz.func57, Tryz.ntmps57
        go_wp2
        go_ret
        exact ⟨rfl, HBo.out _⟩
      | true =>
        try simp only [Bool.true_and, Bool.and_true]
        cases bn with
        | false =>
          try simp only [Bool.false_and, Bool.true_and, Bool.and_true, Bool.and_false]
          go_enter Tryz.func57, Tryz.ntmps57
          go_wp2
          go_ret
          exact ⟨rfl, HBo.out _⟩
        | true =>
          try simp only [Bool.true_and, Bool.and_true]
          cases bs with
          | false =>
            try simp only [Bool.false_and, Bool.true_and, Bool.and_true, Bool.and_false]
            go_enter Tryz.func57, Tryz.ntmps57
            go_wp2
            go_ret
            exact ⟨rfl, HBo.out _⟩
          | true =>
            try simp only [Bool.true_and, Bool.and_true]
            go_enter Tryz.func57, Tryz.ntmps57
            go_wp2
            go_ret
            exact ⟨rfl, HBo.out _⟩
  · go_enter Tryz.func57, Tryz.ntmps57
    go_wp2
    go_ret
    exact ⟨rfl, HBo.out _⟩
  · go_enter Tryz.func57, Tryz.ntmps57
    go_wp2
    go_ret
    exact ⟨rfl, HBo.out _⟩
end Go.Proofs.YtplcmcealeeppaaGreatDoor
/- The reference: the fields that a kind has (kinds 7 tz0 10). -/
set_option linter.unusedVariables false
set_option linter.unusedSimpArgs false
namespace Go.Proofs.YtplcmcealeeppaaGreatDoor
open Go Go.RowKit L8 L10

set_option maxRecDepth 100000 in
set_option maxHeartbeats 4000000 in
theorem ROwn_7 (e : Ex) (hok : OKe e) (A : Option Addr) (n c : Nat) (hn : e.l.length = n) (w : World) (h7 : e.k = 7) : Calls Tryz.prog 57 #[exV e A n c] w fun en w' => en = .returned (.bool (ownE e)) ∧ Below w.heap.size w w' := by
  have HB0 := Lib.hid (bal (bal (b0 w) (.cells (exC e A n c) 27)) (.cells #[.int .u8 (e.k : Int), .int .u8 0, .int .u8 0, .int .i32 0, .string ⟨#[]⟩, .slice none 0 0] 27))
  have HBs : Hid (∀ Y, Below ((w.alloc (.cells (exC e A n c) 27)).alloc (.cells #[.int .u8 (e.k : Int), .int .u8 0, .int .u8 0, .int .i32 0, .string (strOf e.s), .slice none 0 0] 27)).heap.size ((w.alloc (.cells (exC e A n c) 27)).alloc (.cells #[.int .u8 (e.k : Int), .int .u8 0, .int .u8 0, .int .i32 0, .string (strOf e.s), .slice none 0 0] 27)) Y → Below w.heap.size w Y ∧ BoxS Y w.heap.size 27 (exC e A n c) ∧ BoxS Y (w.heap.size + 1) 27 #[.int .u8 (e.k : Int), .int .u8 0, .int .u8 0, .int .i32 0, .string (strOf e.s), .slice none 0 0]) := Lib.hid (by
    intro Y b
    have h2 := boxS_new (w.alloc (.cells (exC e A n c) 27)) 27 #[.int .u8 (e.k : Int), .int .u8 0, .int .u8 0, .int .i32 0, .string (strOf e.s), .slice none 0 0]
    rw [World.size_alloc] at h2
    exact ⟨blw (bal (bal (b0 w) _) _) b, ((boxS_new w _ _).alloc _).below b, h2.below b⟩)
  have HBo : Hid (∀ cs : Array Value, Below w.heap.size w ((w.alloc (.cells (exC e A n c) 27)).alloc (.cells cs 27))) := Lib.hid fun cs => bal (bal (b0 w) _) _
  have CN := Lib.hid (fun (W : World) => RName_any e.s hok.2.2.2.2.2 W)
  have CP := Lib.hid (fun (W : World) => RPrimX_any e.t W)
  have ho0 : (0 : Int) ≤ (e.o : Int) := by omega
  have q1 : ((e.k : Int) == 1) = decide (e.k = 1) := nat_eq10 _ 1
  have q2 : ((e.k : Int) == 2) = decide (e.k = 2) := nat_eq10 _ 2
  have q3 : ((e.k : Int) == 3) = decide (e.k = 3) := nat_eq10 _ 3
  have q4 : ((e.k : Int) == 4) = decide (e.k = 4) := nat_eq10 _ 4
  have q5 : ((e.k : Int) == 5) = decide (e.k = 5) := nat_eq10 _ 5
  have q6 : ((e.k : Int) == 6) = decide (e.k = 6) := nat_eq10 _ 6
  have q7 : ((e.k : Int) == 7) = decide (e.k = 7) := nat_eq10 _ 7
  have q8 : ((e.k : Int) == 8) = decide (e.k = 8) := nat_eq10 _ 8
  have q9 : ((e.k : Int) == 9) = decide (e.k = 9) := nat_eq10 _ 9
  have r0 : ((n : Int) == 0) = decide (n = 0) := nat_eq10 _ 0
  have r1 : ((n : Int) == 1) = decide (n = 1) := nat_eq10 _ 1
  have r2 : ((n : Int) == 2) = decide (n = 2) := nat_eq10 _ 2
  have tz0 : ((e.o : Int) == 0) = decide (e.o = 0) := nat_eq10 _ 0
  have tt : ((e.t : Int) == 0) = decide (e.t = 0) := nat_eq10 _ 0
  have tn : (e.n == 0) = decide (e.n = 0) := by by_cases h : e.n = 0 <;> simp [h]
  have tn1 : (e.n == 1) = decide (e.n = 1) := by by_cases h : e.n = 1 <;> simp [h]
  have ts := eq_nil10 e.s
  have d23 : decide (23 ≤ e.o) = decide ((23 : Int) ≤ (e.o : Int)) := decide_eq_decide.2 (by omega)
  have d26 : decide (e.o ≤ 26) = decide ((e.o : Int) ≤ 26) := decide_eq_decide.2 (by omega)
  have d1 : decide (1 ≤ e.o) = decide ((1 : Int) ≤ (e.o : Int)) := decide_eq_decide.2 (by omega)
  have d22 : decide (e.o ≤ 22) = decide ((e.o : Int) ≤ 22) := decide_eq_decide.2 (by omega)
  clear hok
  dsimp only [exV, exC] at *
  rw [own_is7 h7, hn]
  rw [decide_eq_true h7] at q7
  rw [decide_eq_false (show ¬ e.k = 1 by omega)] at q1
  rw [decide_eq_false (show ¬ e.k = 2 by omega)] at q2
  rw [decide_eq_false (show ¬ e.k = 3 by omega)] at q3
  rw [decide_eq_false (show ¬ e.k = 4 by omega)] at q4
  rw [decide_eq_false (show ¬ e.k = 5 by omega)] at q5
  rw [decide_eq_false (show ¬ e.k = 6 by omega)] at q6
  rw [decide_eq_false (show ¬ e.k = 8 by omega)] at q8
  rw [decide_eq_false (show ¬ e.k = 9 by omega)] at q9
  clear h7
  rw [d1, d22]
  clear CN CP HBs d23 d26 d1 d22
  by_cases g1 : (1 : Int) ≤ (e.o : Int) <;> by_cases g2 : (e.o : Int) ≤ 22
  all_goals try (exfalso; omega)
  all_goals simp only [g1, g2, decide_true, decide_false, Bool.true_and, Bool.false_and, Bool.and_false]
  all_goals generalize decide (n = 2) = bl at *
  all_goals generalize decide (e.t = 0) = bt at *
  all_goals generalize decide (e.n = 0) = bn at *
  all_goals generalize decide (e.s = []) = bs at *
  all_goals generalize strOf e.s = S at *
  · cases bl with
    | false =>
      try simp only [Bool.false_and, Bool.true_and, Bool.and_true, Bool.and_false]
      go_enter Tryz.func57, Tryz.ntmps57
      go_wp2
      go_ret
      exact ⟨rfl, HBo.out _⟩
    | true =>
      try simp only [Bool.true_and, Bool.and_true]
      cases bt with
      | false =>
        try simp only [Bool.false_and, Bool.true_and, Bool.and_true, Bool.and_false]
        go_enter Tryz.func57, Tryz.ntmps57
        go_wp2
        go_ret
        exact ⟨rfl, HBo.out _⟩
      | true =>
        try simp only [Bool.true_and, Bool.and_true]
        cases bn with
        | false =>
          try simp only [Bool.false_and, Bool.true_and, Bool.and_true, Bool.and_false]
          go_enter Tryz.func57, Tryz.ntmps57
          go_wp2
          go_ret
          exact ⟨rfl, HBo.out _⟩
        | true =>
          try simp only [Bool.true_and, Bool.and_true]
          cases bs with
          | false =>
            try simp only [Bool.false_and, Bool.true_and, Bool.and_true, Bool.and_false]
            go_enter Tryz.func57, Tryz.ntmps57
            go_wp2
            go_ret
            exact ⟨rfl, HBo.out _⟩
          | true =>
            try simp only [Bool.true_and, Bool.and_true]
            go_enter Tryz.func57, Tryz.ntmps57
            go_wp2
            go_ret
            exact ⟨rfl, HBo.out _⟩
  · go_enter Tryz.func57, Tryz.ntmps57
    go_wp2
    go_ret
    exact ⟨rfl, HBo.out _⟩
  · go_enter Tryz.func57, Tryz.ntmps57
    go_wp2
    go_ret
    exact ⟨rfl, HBo.out _⟩
set_option maxRecDepth 100000 in
set_option maxHeartbeats 4000000 in
theorem ROwn_8 (e : Ex) (hok : OKe e) (A : Option Addr) (n c : Nat) (hn : e.l.length = n) (w : World) (h8 : e.k = 8) : Calls Tryz.prog 57 #[exV e A n c] w fun en w' => en = .returned (.bool (ownE e)) ∧ Below w.heap.size w w' := by
  have HB0 := Lib.hid (bal (bal (b0 w) (.cells (exC e A n c) 27)) (.cells #[.int .u8 (e.k : Int), .int .u8 0, .int .u8 0, .int .i32 0, .string ⟨#[]⟩, .slice none 0 0] 27))
  have HBs : Hid (∀ Y, Below ((w.alloc (.cells (exC e A n c) 27)).alloc (.cells #[.int .u8 (e.k : Int), .int .u8 0, .int .u8 0, .int .i32 0, .string (strOf e.s), .slice none 0 0] 27)).heap.size ((w.alloc (.cells (exC e A n c) 27)).alloc (.cells #[.int .u8 (e.k : Int), .int .u8 0, .int .u8 0, .int .i32 0, .string (strOf e.s), .slice none 0 0] 27)) Y → Below w.heap.size w Y ∧ BoxS Y w.heap.size 27 (exC e A n c) ∧ BoxS Y (w.heap.size + 1) 27 #[.int .u8 (e.k : Int), .int .u8 0, .int .u8 0, .int .i32 0, .string (strOf e.s), .slice none 0 0]) := Lib.hid (by
    intro Y b
    have h2 := boxS_new (w.alloc (.cells (exC e A n c) 27)) 27 #[.int .u8 (e.k : Int), .int .u8 0, .int .u8 0, .int .i32 0, .string (strOf e.s), .slice none 0 0]
    rw [World.size_alloc] at h2
    exact ⟨blw (bal (bal (b0 w) _) _) b, ((boxS_new w _ _).alloc _).below b, h2.below b⟩)
  have HBo : Hid (∀ cs : Array Value, Below w.heap.size w ((w.alloc (.cells (exC e A n c) 27)).alloc (.cells cs 27))) := Lib.hid fun cs => bal (bal (b0 w) _) _
  have CN := Lib.hid (fun (W : World) => RName_any e.s hok.2.2.2.2.2 W)
  have CP := Lib.hid (fun (W : World) => RPrimX_any e.t W)
  have ho0 : (0 : Int) ≤ (e.o : Int) := by omega
  have q1 : ((e.k : Int) == 1) = decide (e.k = 1) := nat_eq10 _ 1
  have q2 : ((e.k : Int) == 2) = decide (e.k = 2) := nat_eq10 _ 2
  have q3 : ((e.k : Int) == 3) = decide (e.k = 3) := nat_eq10 _ 3
  have q4 : ((e.k : Int) == 4) = decide (e.k = 4) := nat_eq10 _ 4
  have q5 : ((e.k : Int) == 5) = decide (e.k = 5) := nat_eq10 _ 5
  have q6 : ((e.k : Int) == 6) = decide (e.k = 6) := nat_eq10 _ 6
  have q7 : ((e.k : Int) == 7) = decide (e.k = 7) := nat_eq10 _ 7
  have q8 : ((e.k : Int) == 8) = decide (e.k = 8) := nat_eq10 _ 8
  have q9 : ((e.k : Int) == 9) = decide (e.k = 9) := nat_eq10 _ 9
  have r0 : ((n : Int) == 0) = decide (n = 0) := nat_eq10 _ 0
  have r1 : ((n : Int) == 1) = decide (n = 1) := nat_eq10 _ 1
  have r2 : ((n : Int) == 2) = decide (n = 2) := nat_eq10 _ 2
  have tz0 : ((e.o : Int) == 0) = decide (e.o = 0) := nat_eq10 _ 0
  have tt : ((e.t : Int) == 0) = decide (e.t = 0) := nat_eq10 _ 0
  have tn : (e.n == 0) = decide (e.n = 0) := by by_cases h : e.n = 0 <;> simp [h]
  have tn1 : (e.n == 1) = decide (e.n = 1) := by by_cases h : e.n = 1 <;> simp [h]
  have ts := eq_nil10 e.s
  have d23 : decide (23 ≤ e.o) = decide ((23 : Int) ≤ (e.o : Int)) := decide_eq_decide.2 (by omega)
  have d26 : decide (e.o ≤ 26) = decide ((e.o : Int) ≤ 26) := decide_eq_decide.2 (by omega)
  have d1 : decide (1 ≤ e.o) = decide ((1 : Int) ≤ (e.o : Int)) := decide_eq_decide.2 (by omega)
  have d22 : decide (e.o ≤ 22) = decide ((e.o : Int) ≤ 22) := decide_eq_decide.2 (by omega)
  clear hok
  dsimp only [exV, exC] at *
  rw [own_is8 h8, hn]
  rw [decide_eq_true h8] at q8
  rw [decide_eq_false (show ¬ e.k = 1 by omega)] at q1
  rw [decide_eq_false (show ¬ e.k = 2 by omega)] at q2
  rw [decide_eq_false (show ¬ e.k = 3 by omega)] at q3
  rw [decide_eq_false (show ¬ e.k = 4 by omega)] at q4
  rw [decide_eq_false (show ¬ e.k = 5 by omega)] at q5
  rw [decide_eq_false (show ¬ e.k = 6 by omega)] at q6
  rw [decide_eq_false (show ¬ e.k = 7 by omega)] at q7
  rw [decide_eq_false (show ¬ e.k = 9 by omega)] at q9
  clear h8
  all_goals generalize decide (n = 1) = bl at *
  all_goals generalize decide (e.o = 0) = bo at *
  all_goals generalize decide (e.n = 0) = bn at *
  all_goals generalize decide (e.s = []) = bs at *
  all_goals generalize strOf e.s = S at *
  clear CN HBs
  generalize prim e.t = bf at *
  cases bf with
  | false =>
    try simp only [Bool.false_and, Bool.true_and, Bool.and_true, Bool.and_false]
    go_enter Tryz.func57, Tryz.ntmps57
    go_wp2_with (go_at_call 93; (with_reducible refine (CP.out _).mono ?_); rintro en w2 ⟨rfl, rfl⟩)
    go_ret
    exact ⟨rfl, HBo.out _⟩
  | true =>
    try simp only [Bool.true_and, Bool.and_true]
    cases bl with
    | false =>
      try simp only [Bool.false_and, Bool.true_and, Bool.and_true, Bool.and_false]
      go_enter Tryz.func57, Tryz.ntmps57
      go_wp2_with (go_at_call 93; (with_reducible refine (CP.out _).mono ?_); rintro en w2 ⟨rfl, rfl⟩)
      go_ret
      exact ⟨rfl, HBo.out _⟩
    | true =>
      try simp only [Bool.true_and, Bool.and_true]
      cases bo with
      | false =>
        try simp only [Bool.false_and, Bool.true_and, Bool.and_true, Bool.and_false]
        go_enter Tryz.func57, Tryz.ntmps57
        go_wp2_with (go_at_call 93; (with_reducible refine (CP.out _).mono ?_); rintro en w2 ⟨rfl, rfl⟩)
        go_ret
        exact ⟨rfl, HBo.out _⟩
      | true =>
        try simp only [Bool.true_and, Bool.and_true]
        cases bn with
        | false =>
          try simp only [Bool.false_and, Bool.true_and, Bool.and_true, Bool.and_false]
          go_enter Tryz.func57, Tryz.ntmps57
          go_wp2_with (go_at_call 93; (with_reducible refine (CP.out _).mono ?_); rintro en w2 ⟨rfl, rfl⟩)
          go_ret
          exact ⟨rfl, HBo.out _⟩
        | true =>
          try simp only [Bool.true_and, Bool.and_true]
          cases bs with
          | false =>
            try simp only [Bool.false_and, Bool.true_and, Bool.and_true, Bool.and_false]
            go_enter Tryz.func57, Tryz.ntmps57
            go_wp2_with (go_at_call 93; (with_reducible refine (CP.out _).mono ?_); rintro en w2 ⟨rfl, rfl⟩)
            go_ret
            exact ⟨rfl, HBo.out _⟩
          | true =>
            try simp only [Bool.true_and, Bool.and_true]
            go_enter Tryz.func57, Tryz.ntmps57
            go_wp2_with (go_at_call 93; (with_reducible refine (CP.out _).mono ?_); rintro en w2 ⟨rfl, rfl⟩)
            go_ret
            exact ⟨rfl, HBo.out _⟩
set_option maxRecDepth 100000 in
set_option maxHeartbeats 4000000 in
theorem ROwn_9 (e : Ex) (hok : OKe e) (A : Option Addr) (n c : Nat) (hn : e.l.length = n) (w : World) (h9 : e.k = 9) : Calls Tryz.prog 57 #[exV e A n c] w fun en w' => en = .returned (.bool (ownE e)) ∧ Below w.heap.size w w' := by
  have HB0 := Lib.hid (bal (bal (b0 w) (.cells (exC e A n c) 27)) (.cells #[.int .u8 (e.k : Int), .int .u8 0, .int .u8 0, .int .i32 0, .string ⟨#[]⟩, .slice none 0 0] 27))
  have HBs : Hid (∀ Y, Below ((w.alloc (.cells (exC e A n c) 27)).alloc (.cells #[.int .u8 (e.k : Int), .int .u8 0, .int .u8 0, .int .i32 0, .string (strOf e.s), .slice none 0 0] 27)).heap.size ((w.alloc (.cells (exC e A n c) 27)).alloc (.cells #[.int .u8 (e.k : Int), .int .u8 0, .int .u8 0, .int .i32 0, .string (strOf e.s), .slice none 0 0] 27)) Y → Below w.heap.size w Y ∧ BoxS Y w.heap.size 27 (exC e A n c) ∧ BoxS Y (w.heap.size + 1) 27 #[.int .u8 (e.k : Int), .int .u8 0, .int .u8 0, .int .i32 0, .string (strOf e.s), .slice none 0 0]) := Lib.hid (by
    intro Y b
    have h2 := boxS_new (w.alloc (.cells (exC e A n c) 27)) 27 #[.int .u8 (e.k : Int), .int .u8 0, .int .u8 0, .int .i32 0, .string (strOf e.s), .slice none 0 0]
    rw [World.size_alloc] at h2
    exact ⟨blw (bal (bal (b0 w) _) _) b, ((boxS_new w _ _).alloc _).below b, h2.below b⟩)
  have HBo : Hid (∀ cs : Array Value, Below w.heap.size w ((w.alloc (.cells (exC e A n c) 27)).alloc (.cells cs 27))) := Lib.hid fun cs => bal (bal (b0 w) _) _
  have CN := Lib.hid (fun (W : World) => RName_any e.s hok.2.2.2.2.2 W)
  have CP := Lib.hid (fun (W : World) => RPrimX_any e.t W)
  have ho0 : (0 : Int) ≤ (e.o : Int) := by omega
  have q1 : ((e.k : Int) == 1) = decide (e.k = 1) := nat_eq10 _ 1
  have q2 : ((e.k : Int) == 2) = decide (e.k = 2) := nat_eq10 _ 2
  have q3 : ((e.k : Int) == 3) = decide (e.k = 3) := nat_eq10 _ 3
  have q4 : ((e.k : Int) == 4) = decide (e.k = 4) := nat_eq10 _ 4
  have q5 : ((e.k : Int) == 5) = decide (e.k = 5) := nat_eq10 _ 5
  have q6 : ((e.k : Int) == 6) = decide (e.k = 6) := nat_eq10 _ 6
  have q7 : ((e.k : Int) == 7) = decide (e.k = 7) := nat_eq10 _ 7
  have q8 : ((e.k : Int) == 8) = decide (e.k = 8) := nat_eq10 _ 8
  have q9 : ((e.k : Int) == 9) = decide (e.k = 9) := nat_eq10 _ 9
  have r0 : ((n : Int) == 0) = decide (n = 0) := nat_eq10 _ 0
  have r1 : ((n : Int) == 1) = decide (n = 1) := nat_eq10 _ 1
  have r2 : ((n : Int) == 2) = decide (n = 2) := nat_eq10 _ 2
  have tz0 : ((e.o : Int) == 0) = decide (e.o = 0) := nat_eq10 _ 0
  have tt : ((e.t : Int) == 0) = decide (e.t = 0) := nat_eq10 _ 0
  have tn : (e.n == 0) = decide (e.n = 0) := by by_cases h : e.n = 0 <;> simp [h]
  have tn1 : (e.n == 1) = decide (e.n = 1) := by by_cases h : e.n = 1 <;> simp [h]
  have ts := eq_nil10 e.s
  have d23 : decide (23 ≤ e.o) = decide ((23 : Int) ≤ (e.o : Int)) := decide_eq_decide.2 (by omega)
  have d26 : decide (e.o ≤ 26) = decide ((e.o : Int) ≤ 26) := decide_eq_decide.2 (by omega)
  have d1 : decide (1 ≤ e.o) = decide ((1 : Int) ≤ (e.o : Int)) := decide_eq_decide.2 (by omega)
  have d22 : decide (e.o ≤ 22) = decide ((e.o : Int) ≤ 22) := decide_eq_decide.2 (by omega)
  clear hok
  dsimp only [exV, exC] at *
  rw [own_is9 h9, hn]
  rw [decide_eq_true h9] at q9
  rw [decide_eq_false (show ¬ e.k = 1 by omega)] at q1
  rw [decide_eq_false (show ¬ e.k = 2 by omega)] at q2
  rw [decide_eq_false (show ¬ e.k = 3 by omega)] at q3
  rw [decide_eq_false (show ¬ e.k = 4 by omega)] at q4
  rw [decide_eq_false (show ¬ e.k = 5 by omega)] at q5
  rw [decide_eq_false (show ¬ e.k = 6 by omega)] at q6
  rw [decide_eq_false (show ¬ e.k = 7 by omega)] at q7
  rw [decide_eq_false (show ¬ e.k = 8 by omega)] at q8
  clear h9
  all_goals generalize decide (n = 0) = bl at *
  all_goals generalize decide (e.o = 0) = bo at *
  all_goals generalize decide (e.t = 0) = bt at *
  all_goals generalize decide (e.n = 0) = bn at *
  clear CP
  generalize isName e.s = bf at *
  generalize strOf e.s = S at *
  cases bf with
  | false =>
    try simp only [Bool.false_and, Bool.true_and, Bool.and_true, Bool.and_false]
    go_enter Tryz.func57, Tryz.ntmps57
    go_wp2_with (go_at_call 53; (with_reducible refine (CN.out _).mono ?_); rintro en w2 ⟨rfl, b⟩; have H2 := Lib.hid (HBs.out _ b); clear b; obtain ⟨x0, x1, x2, x3, x4, x5⟩ := box6 H2.out.2.1; obtain ⟨y0, y1, y2, y3, y4, y5⟩ := box6 H2.out.2.2)
    go_ret
    exact ⟨rfl, H2.out.1⟩
  | true =>
    try simp only [Bool.true_and, Bool.and_true]
    cases bl with
    | false =>
      try simp only [Bool.false_and, Bool.true_and, Bool.and_true, Bool.and_false]
      go_enter Tryz.func57, Tryz.ntmps57
      go_wp2_with (go_at_call 53; (with_reducible refine (CN.out _).mono ?_); rintro en w2 ⟨rfl, b⟩; have H2 := Lib.hid (HBs.out _ b); clear b; obtain ⟨x0, x1, x2, x3, x4, x5⟩ := box6 H2.out.2.1; obtain ⟨y0, y1, y2, y3, y4, y5⟩ := box6 H2.out.2.2)
      go_ret
      exact ⟨rfl, H2.out.1⟩
    | true =>
      try simp only [Bool.true_and, Bool.and_true]
      cases bo with
      | false =>
        try simp only [Bool.false_and, Bool.true_and, Bool.and_true, Bool.and_false]
        go_enter Tryz.func57, Tryz.ntmps57
        go_wp2_with (go_at_call 53; (with_reducible refine (CN.out _).mono ?_); rintro en w2 ⟨rfl, b⟩; have H2 := Lib.hid (HBs.out _ b); clear b; obtain ⟨x0, x1, x2, x3, x4, x5⟩ := box6 H2.out.2.1; obtain ⟨y0, y1, y2, y3, y4, y5⟩ := box6 H2.out.2.2)
        go_ret
        exact ⟨rfl, H2.out.1⟩
      | true =>
        try simp only [Bool.true_and, Bool.and_true]
        cases bt with
        | false =>
          try simp only [Bool.false_and, Bool.true_and, Bool.and_true, Bool.and_false]
          go_enter Tryz.func57, Tryz.ntmps57
          go_wp2_with (go_at_call 53; (with_reducible refine (CN.out _).mono ?_); rintro en w2 ⟨rfl, b⟩; have H2 := Lib.hid (HBs.out _ b); clear b; obtain ⟨x0, x1, x2, x3, x4, x5⟩ := box6 H2.out.2.1; obtain ⟨y0, y1, y2, y3, y4, y5⟩ := box6 H2.out.2.2)
          go_ret
          exact ⟨rfl, H2.out.1⟩
        | true =>
          try simp only [Bool.true_and, Bool.and_true]
          cases bn with
          | false =>
            try simp only [Bool.false_and, Bool.true_and, Bool.and_true, Bool.and_false]
            go_enter Tryz.func57, Tryz.ntmps57
            go_wp2_with (go_at_call 53; (with_reducible refine (CN.out _).mono ?_); rintro en w2 ⟨rfl, b⟩; have H2 := Lib.hid (HBs.out _ b); clear b; obtain ⟨x0, x1, x2, x3, x4, x5⟩ := box6 H2.out.2.1; obtain ⟨y0, y1, y2, y3, y4, y5⟩ := box6 H2.out.2.2)
            go_ret
            exact ⟨rfl, H2.out.1⟩
          | true =>
            try simp only [Bool.true_and, Bool.and_true]
            go_enter Tryz.func57, Tryz.ntmps57
            go_wp2_with (go_at_call 53; (with_reducible refine (CN.out _).mono ?_); rintro en w2 ⟨rfl, b⟩; have H2 := Lib.hid (HBs.out _ b); clear b; obtain ⟨x0, x1, x2, x3, x4, x5⟩ := box6 H2.out.2.1; obtain ⟨y0, y1, y2, y3, y4, y5⟩ := box6 H2.out.2.2)
            go_ret
            exact ⟨rfl, H2.out.1⟩
set_option maxRecDepth 100000 in
set_option maxHeartbeats 4000000 in
theorem ROwn_x (e : Ex) (hok : OKe e) (A : Option Addr) (n c : Nat) (hn : e.l.length = n) (w : World) (h1 : ¬ e.k = 1) (h2 : ¬ e.k = 2) (h3 : ¬ e.k = 3) (h4 : ¬ e.k = 4) (h5 : ¬ e.k = 5) (h6 : ¬ e.k = 6) (h7 : ¬ e.k = 7) (h8 : ¬ e.k = 8) (h9 : ¬ e.k = 9) : Calls Tryz.prog 57 #[exV e A n c] w fun en w' => en = .returned (.bool (ownE e)) ∧ Below w.heap.size w w' := by
  have HB0 := Lib.hid (bal (bal (b0 w) (.cells (exC e A n c) 27)) (.cells #[.int .u8 (e.k : Int), .int .u8 0, .int .u8 0, .int .i32 0, .string ⟨#[]⟩, .slice none 0 0] 27))
  have HBs : Hid (∀ Y, Below ((w.alloc (.cells (exC e A n c) 27)).alloc (.cells #[.int .u8 (e.k : Int), .int .u8 0, .int .u8 0, .int .i32 0, .string (strOf e.s), .slice none 0 0] 27)).heap.size ((w.alloc (.cells (exC e A n c) 27)).alloc (.cells #[.int .u8 (e.k : Int), .int .u8 0, .int .u8 0, .int .i32 0, .string (strOf e.s), .slice none 0 0] 27)) Y → Below w.heap.size w Y ∧ BoxS Y w.heap.size 27 (exC e A n c) ∧ BoxS Y (w.heap.size + 1) 27 #[.int .u8 (e.k : Int), .int .u8 0, .int .u8 0, .int .i32 0, .string (strOf e.s), .slice none 0 0]) := Lib.hid (by
    intro Y b
    have h2 := boxS_new (w.alloc (.cells (exC e A n c) 27)) 27 #[.int .u8 (e.k : Int), .int .u8 0, .int .u8 0, .int .i32 0, .string (strOf e.s), .slice none 0 0]
    rw [World.size_alloc] at h2
    exact ⟨blw (bal (bal (b0 w) _) _) b, ((boxS_new w _ _).alloc _).below b, h2.below b⟩)
  have HBo : Hid (∀ cs : Array Value, Below w.heap.size w ((w.alloc (.cells (exC e A n c) 27)).alloc (.cells cs 27))) := Lib.hid fun cs => bal (bal (b0 w) _) _
  have CN := Lib.hid (fun (W : World) => RName_any e.s hok.2.2.2.2.2 W)
  have CP := Lib.hid (fun (W : World) => RPrimX_any e.t W)
  have ho0 : (0 : Int) ≤ (e.o : Int) := by omega
  have q1 : ((e.k : Int) == 1) = decide (e.k = 1) := nat_eq10 _ 1
  have q2 : ((e.k : Int) == 2) = decide (e.k = 2) := nat_eq10 _ 2
  have q3 : ((e.k : Int) == 3) = decide (e.k = 3) := nat_eq10 _ 3
  have q4 : ((e.k : Int) == 4) = decide (e.k = 4) := nat_eq10 _ 4
  have q5 : ((e.k : Int) == 5) = decide (e.k = 5) := nat_eq10 _ 5
  have q6 : ((e.k : Int) == 6) = decide (e.k = 6) := nat_eq10 _ 6
  have q7 : ((e.k : Int) == 7) = decide (e.k = 7) := nat_eq10 _ 7
  have q8 : ((e.k : Int) == 8) = decide (e.k = 8) := nat_eq10 _ 8
  have q9 : ((e.k : Int) == 9) = decide (e.k = 9) := nat_eq10 _ 9
  have r0 : ((n : Int) == 0) = decide (n = 0) := nat_eq10 _ 0
  have r1 : ((n : Int) == 1) = decide (n = 1) := nat_eq10 _ 1
  have r2 : ((n : Int) == 2) = decide (n = 2) := nat_eq10 _ 2
  have tz0 : ((e.o : Int) == 0) = decide (e.o = 0) := nat_eq10 _ 0
  have tt : ((e.t : Int) == 0) = decide (e.t = 0) := nat_eq10 _ 0
  have tn : (e.n == 0) = decide (e.n = 0) := by by_cases h : e.n = 0 <;> simp [h]
  have tn1 : (e.n == 1) = decide (e.n = 1) := by by_cases h : e.n = 1 <;> simp [h]
  have ts := eq_nil10 e.s
  have d23 : decide (23 ≤ e.o) = decide ((23 : Int) ≤ (e.o : Int)) := decide_eq_decide.2 (by omega)
  have d26 : decide (e.o ≤ 26) = decide ((e.o : Int) ≤ 26) := decide_eq_decide.2 (by omega)
  have d1 : decide (1 ≤ e.o) = decide ((1 : Int) ≤ (e.o : Int)) := decide_eq_decide.2 (by omega)
  have d22 : decide (e.o ≤ 22) = decide ((e.o : Int) ≤ 22) := decide_eq_decide.2 (by omega)
  clear hok
  dsimp only [exV, exC] at *
  rw [own_isx h1 h2 h3 h4 h5 h6 h7 h8 h9]
  rw [decide_eq_false h1] at q1
  rw [decide_eq_false h2] at q2
  rw [decide_eq_false h3] at q3
  rw [decide_eq_false h4] at q4
  rw [decide_eq_false h5] at q5
  rw [decide_eq_false h6] at q6
  rw [decide_eq_false h7] at q7
  rw [decide_eq_false h8] at q8
  rw [decide_eq_false h9] at q9
  clear CN CP HBs h1 h2 h3 h4 h5 h6 h7 h8 h9
  go_enter Tryz.func57, Tryz.ntmps57
  go_wp2
  go_ret
  exact ⟨rfl, HBo.out _⟩
end Go.Proofs.YtplcmcealeeppaaGreatDoor
/- The reference: the fields that a kind has (all kinds). -/
set_option linter.unusedVariables false
set_option linter.unusedSimpArgs false
namespace Go.Proofs.YtplcmcealeeppaaGreatDoor
open Go Go.RowKit L8 L10

theorem ROwn_any (e : Ex) (hok : OKe e) (A : Option Addr) (n c : Nat) (hn : e.l.length = n) (w : World) : Calls Tryz.prog 57 #[exV e A n c] w fun en w' => en = .returned (.bool (ownE e)) ∧ Below w.heap.size w w' := by
  by_cases h1 : e.k = 1
  · exact ROwn_1 e hok A n c hn w h1
  by_cases h2 : e.k = 2
  · exact ROwn_2 e hok A n c hn w h2
  by_cases h3 : e.k = 3
  · exact ROwn_3 e hok A n c hn w h3
  by_cases h4 : e.k = 4
  · exact ROwn_4 e hok A n c hn w h4
  by_cases h5 : e.k = 5
  · exact ROwn_5 e hok A n c hn w h5
  by_cases h6 : e.k = 6
  · exact ROwn_6 e hok A n c hn w h6
  by_cases h7 : e.k = 7
  · exact ROwn_7 e hok A n c hn w h7
  by_cases h8 : e.k = 8
  · exact ROwn_8 e hok A n c hn w h8
  by_cases h9 : e.k = 9
  · exact ROwn_9 e hok A n c hn w h9
  exact ROwn_x e hok A n c hn w h1 h2 h3 h4 h5 h6 h7 h8 h9
end Go.Proofs.YtplcmcealeeppaaGreatDoor
/- The reference: the room that is left, valid trees. -/
set_option linter.unusedVariables false
set_option linter.unusedSimpArgs false
namespace Go.Proofs.YtplcmcealeeppaaGreatDoor
open Go Go.RowKit L8 L10

theorem drop_one {l : List Ex} {j : Nat} (h : j < l.length) : l.drop j = l.getD j e0 :: l.drop (j + 1) := by
  rw [List.drop_eq_getElem_cons h]
  congr 1
  simp [h]
theorem room_rng (e : Ex) {i : Nat} {left : Int} (hi : i ≤ 32) (hl : 0 ≤ left) : -1 ≤ roomE e i left ∧ roomE e i left ≤ left := by
  rw [room_is e i left hi hl]
  split <;> omega
set_option maxRecDepth 100000 in
set_option maxHeartbeats 4000000 in
theorem RRoom_any : ∀ e : Ex, ∀ (A : Option Addr) (n c i : Nat) (left : Int) (w : World), TrR w A c e.l → e.l.length = n → OKe e → i ≤ 32 → 0 ≤ left → left ≤ 256 → Calls Tryz.prog 36 #[exV e A n c, .int .i64 (i : Int), .int .i64 left] w fun en w' => en = .returned (.int .i64 (roomE e i left)) ∧ Below w.heap.size w w' := by
  refine Ex.ind fun e ih A n c i left w R hn hok hi hl0 hl => ?_
  have HN := Lib.hid hn
  have hmx : n ≤ maxLen := by have := R.le; have := R.mx; omega
  unfold maxLen at hmx
  have HV := Lib.hid (XS.new (n := n) R)
  have CO := Lib.hid (fun (W : World) => ROwn_any e hok A n c hn W)
  have hi0 : (0 : Int) ≤ (i : Int) := by omega
  have hi32 : (i : Int) ≤ 32 := by omega
  have q32 : ((i : Int) == 32) = decide (i = 32) := nat_eq10 i 32
  have q0 : (left == 0) = decide (left = 0) := by by_cases h : left = 0 <;> simp [h]
  have hr := roomE_eq e i left
  have HBel := Lib.hid HV.out.bel
  have IH : Hid (i < 32 → ∀ j, j < n → ∀ (B : Option Addr) (m d : Nat) (lf : Int) (X : World), TrR X B d (e.l.getD j e0).l → (e.l.getD j e0).l.length = m → OKe (e.l.getD j e0) → 0 ≤ lf → lf ≤ 256 → Calls Tryz.prog 36 #[exV (e.l.getD j e0) B m d, .int .i64 ((i : Int) + 1), .int .i64 lf] X fun en w' => en = .returned (.int .i64 (roomE (e.l.getD j e0) (i + 1) lf)) ∧ Below X.heap.size X w') := Lib.hid fun h32 j hj B m d lf X R h ok h0 h1 => by
    have := ih _ (getD_memE (by omega)) B m d (i + 1) lf X R h ok (by omega) h0 h1
    rwa [show ((i + 1 : Nat) : Int) = (i : Int) + 1 by omega] at this
  clear R ih hok
  by_cases h32 : i = 32
  · rw [hr, if_pos (.inl h32)]
    rw [decide_eq_true h32] at q32
    clear IH CO hr q0 h32
    dsimp only [exV, exC] at *
    generalize strOf e.s = S at *
    go_enter Tryz.func36, Tryz.ntmps36
    go_wp2
    go_ret
    exact ⟨rfl, HBel.out⟩
  rw [decide_eq_false h32] at q32
  by_cases hz : left = 0
  · rw [hr, if_pos (.inr (.inl hz))]
    rw [decide_eq_true hz] at q0
    clear IH CO hr hz h32
    dsimp only [exV, exC] at *
    generalize strOf e.s = S at *
    go_enter Tryz.func36, Tryz.ntmps36
    go_wp2
    go_ret
    exact ⟨rfl, HBel.out⟩
  rw [decide_eq_false hz] at q0
  cases ho : ownE e with
  | false =>
    rw [hr, if_pos (.inr (.inr ho))]
    rw [ho] at CO
    clear IH hr hz h32 ho
    dsimp only [exV, exC] at *
    generalize strOf e.s = S at *
    go_enter Tryz.func36, Tryz.ntmps36
    go_wp2_with (go_at_call 57; (with_reducible refine (CO.out _).mono ?_); rintro en w2 ⟨rfl, b⟩; have H2 := Lib.hid (HV.out.step b); clear b)
    go_ret
    exact ⟨rfl, H2.out.bel⟩
  | true =>
    have hr2 : roomE e i left = roomL e.l (i + 1) (left - 1) := by rw [hr, if_neg (fun h => h.elim h32 fun h => h.elim hz fun h => by rw [ho] at h; cases h)]
    rw [ho] at CO
    have hi31 : (i : Int) < 32 := by omega
    have hl1 : 1 ≤ left := by omega
    have IH2 := Lib.hid (IH.out (by omega))
    have HS := Lib.hid (fun (j : Nat) (lf : Int) (h : j < n) => show roomL (e.l.drop j) (i + 1) lf = if roomE (e.l.getD j e0) (i + 1) lf < 0 then -1 else roomL (e.l.drop (j + 1)) (i + 1) (roomE (e.l.getD j e0) (i + 1) lf) by rw [drop_one (by omega), roomL])
    have HR := Lib.hid (fun (j : Nat) (lf : Int) (h : 0 ≤ lf) => room_rng (e.l.getD j e0) (i := i + 1) (left := lf) (by omega) h)
    have HEnd := Lib.hid (fun (lf : Int) => show roomL (e.l.drop n) (i + 1) lf = lf by rw [← HN.out, List.drop_length, roomL])
    have HF := Lib.hid hr2
    clear IH hr hr2 hz h32 ho hn
    generalize roomE e i left = F at *
    dsimp only [exV, exC] at *
    generalize hS : strOf e.s = S at *
    clear hS
    go_enter Tryz.func36, Tryz.ntmps36
    go_wp2_with (go_at_call 57; (with_reducible refine (CO.out _).mono ?_); rintro en w2 ⟨rfl, b⟩; have H2 := Lib.hid (HV.out.step b); clear b)
    go_loopw [2, 7] (fun z ι wr => ∃ (j : Nat) (lf : Int), j ≤ n ∧ z = .int .i64 lf ∧ ι = .int .i64 j ∧ 0 ≤ lf ∧ lf ≤ 255 ∧ F = roomL (e.l.drop j) (i + 1) lf ∧ Hid (XS w wr e A n c)) (fun _ ι _ => n - (intOf ι).toNat)
    case atStart => exact ⟨0, left - 1, Nat.zero_le _, rfl, rfl, by omega, by omega, HF.out, H2⟩
    case round =>
      obtain ⟨j, lf, hj, rfl, rfl, hf0, hf1, hF, H⟩ := hrel
      have hj0 : (0 : Int) ≤ (j : Int) := by omega
      obtain ⟨p0, p1, p2, p3, p4, p5⟩ := H.out.box
      clear p0 p1 p2 p3 p4
      by_cases hlt : (j : Int) < (n : Int)
      · obtain ⟨ad, rfl, B, m, d, hm, hok, Rc, x0, x1, x2, x3, x4, x5⟩ := H.out.tr.at (j := j) (by have := HN.out; omega)
        have C := Lib.hid (IH2.out j (by omega) B m d lf _ Rc hm hok hf0 (by omega))
        have h1 := HS.out j lf (by omega)
        have h2 := HR.out j lf hf0
        rw [h1] at hF
        clear Rc hm hok h1
        generalize roomE (e.l.getD j e0) (i + 1) lf = u at *
        generalize e.l.getD j e0 = y at *
        generalize strOf y.s = SY at *
        obtain ⟨u0, u1⟩ := h2
        by_cases hu : u < 0
        · rw [if_pos hu] at hF
          have HE := Lib.hid hF
          clear hF
          go_wp2_with (go_at_call 36; (with_reducible refine (C.out).mono ?_); rintro e1 w3 ⟨rfl, b⟩; have H3 := Lib.hid (H.out.step b); clear b)
          go_ret
          rw [HE.out]
          exact ⟨rfl, H3.out.bel⟩
        · rw [if_neg hu] at hF
          have HE := Lib.hid hF
          clear hF
          go_wp2_with (go_at_call 36; (with_reducible refine (C.out).mono ?_); rintro e1 w3 ⟨rfl, b⟩; have H3 := Lib.hid (H.out.step b); clear b)
          go_roundw
          case rel => exact ⟨j + 1, u, by omega, by go_num, by go_num, by omega, by omega, HE.out, H3⟩
          case measure => simp [intOf]; omega
      · obtain rfl : j = n := by omega
        have HE := Lib.hid (hF.trans (HEnd.out lf))
        clear hF
        go_wp2
        go_ret
        rw [HE.out]
        exact ⟨rfl, H.out.bel⟩
theorem RMayX_any (e : Ex) (A : Option Addr) (n c : Nat) (w : World) (R : TrR w A c e.l) (hn : e.l.length = n) (hok : OKe e) : Calls Tryz.prog 13 #[exV e A n c] w fun en w' => en = .returned (.bool (mayE e)) ∧ Below w.heap.size w w' := by
  have HV := Lib.hid (XS.new (n := n) R)
  have C : Hid (∀ X, XS w X e A n c → Calls Tryz.prog 36 #[exV e A n c, .int .i64 0, .int .i64 256] X fun en w' => en = .returned (.int .i64 (roomE e 0 256)) ∧ Below X.heap.size X w') := Lib.hid fun X h => RRoom_any e A n c 0 256 X h.tr hn hok (by omega) (by omega) (by omega)
  rw [room_may]
  clear R hn hok
  generalize roomE e 0 256 = u at *
  dsimp only [exV, exC] at *
  generalize strOf e.s = S at *
  by_cases h0 : 0 ≤ u
  all_goals
    simp only [h0, decide_true, decide_false]
    go_enter Tryz.func13, Tryz.ntmps13
    go_wp2_with (go_at_call 36; (with_reducible refine (C.out _ HV.out).mono ?_); rintro en w2 ⟨rfl, b⟩; have H2 := Lib.hid (HV.out.step b); clear b)
    go_ret
    first | exact ⟨rfl, H2.out.bel⟩ | exact ⟨ret_b (by simp; omega), H2.out.bel⟩ | exact ⟨ret_b (decide_eq_true (by omega)), H2.out.bel⟩ | exact ⟨ret_b (decide_eq_false (by omega)), H2.out.bel⟩
end Go.Proofs.YtplcmcealeeppaaGreatDoor
/- The program: valid trees. -/
set_option linter.unusedVariables false
set_option linter.unusedSimpArgs false
namespace Go.Proofs.YtplcmcealeeppaaGreatDoor
open Go Go.RowKit L8 L10

theorem dec_nat (a b : Nat) : decide ((a : Int) ≤ (b : Int)) = decide (a ≤ b) := by by_cases h : a ≤ b <;> simp [h]
theorem mayAlone_any (e : Ex) (A : Option Addr) (n c : Nat) (w : World) (hn : e.l.length = n) (ok : OKe e) (ht : T10 w) : Calls Tryz.prog 56 #[exV e A n c] w fun en w' => en = .returned (.bool (ownE e)) ∧ Below w.heap.size w w' := by
  have hV : Below w.heap.size w (w.alloc (.cells (exC e A n c) 27)) := bal (b0 w) _
  have hk : e.k < 256 := ok.1
  rw [own_fm e ⟨ok.2.2.2.1, ok.2.2.2.2.1⟩]
  by_cases h0 : e.k = 0 ∨ 10 ≤ e.k
  · rw [if_pos h0]
    exact mayAlone_out e A n c w hk h0
  rw [if_neg h0]
  have hF := (ht.below hV).form (k := e.k) (by omega)
  have g0 := hF 0 (by decide)
  have g1 := hF 1 (by decide)
  have g2 := hF 2 (by decide)
  have g3 := hF 3 (by decide)
  have g4 := hF 4 (by decide)
  have g5 := hF 5 (by decide)
  have g6 := hF 6 (by decide)
  have g7 := hF 7 (by decide)
  have q0 : ((e.k : Int) == 0) = false := (nat_eq10 e.k 0).trans (decide_eq_false (by omega))
  have CN := Lib.hid (fun (W : World) => Name_any e.s ok.2.2.2.2.2 W)
  have qs : (strOf e.s).toList.isEmpty = decide (e.s = []) := by rw [strOf_empty]; cases e.s <;> rfl
  unfold fmB
  rw [hn]
  generalize fm e.k = F at *
  obtain ⟨a0, a1, a2, a3, a4, a5, a6, a7⟩ := F
  dsimp only [fmC] at *
  simp only [List.getElem?_cons_zero, List.getElem?_cons_succ, Nat.add_zero] at g0 g1 g2 g3 g4 g5 g6 g7
  have HB : Hid (∀ bb : Bool, Below w.heap.size w ((w.alloc (.cells (exC e A n c) 27)).alloc (.cells #[.int .i32 a0, .int .i32 a1, .int .u8 (a2 : Int), .int .u8 (a3 : Int), .int .u8 (a4 : Int), .int .u8 (a5 : Int), .bool bb, .int .i64 (a7 : Int)] 119))) := Lib.hid fun bb => bal hV _
  have u2 := dec_nat a2 e.o
  have u3 := dec_nat e.o a3
  have u4 := dec_nat a4 e.t
  have u5 := dec_nat e.t a5
  have d7 := nat_eq10 n a7
  obtain ⟨p0, d0⟩ : ∃ p, decide (a0 ≤ e.n) = p := ⟨_, rfl⟩
  obtain ⟨p1, d1⟩ : ∃ p, decide (e.n ≤ a1) = p := ⟨_, rfl⟩
  obtain ⟨p2, d2⟩ : ∃ p, decide (a2 ≤ e.o) = p := ⟨_, rfl⟩
  obtain ⟨p3, d3⟩ : ∃ p, decide (e.o ≤ a3) = p := ⟨_, rfl⟩
  obtain ⟨p4, d4⟩ : ∃ p, decide (a4 ≤ e.t) = p := ⟨_, rfl⟩
  obtain ⟨p5, d5⟩ : ∃ p, decide (e.t ≤ a5) = p := ⟨_, rfl⟩
  obtain ⟨p7, d7'⟩ : ∃ p, decide (n = a7) = p := ⟨_, rfl⟩
  rw [d2] at u2
  rw [d3] at u3
  rw [d4] at u4
  rw [d5] at u5
  rw [d7'] at d7
  rw [d0, d1, d2, d3, d4, d5, d7']
  have hk1 : (1 : Int) ≤ (e.k : Int) := by omega
  have hk9 : (e.k : Int) < 10 := by omega
  cases p0
  · exact mayAlone_row0 e A n c w hk1 hk9 a0 a1 a2 a3 a4 a5 a7 a6 _ _ _ _ _ _ _ _ _ q0 d0 d1 u2 u3 u4 u5 d2 d3 d4 d5 d7 _ qs CN _ rfl (Lib.hid hV) g0 g1 g2 g3 g4 g5 g6 g7 HB rfl
  cases p1
  · exact mayAlone_row1 e A n c w hk1 hk9 a0 a1 a2 a3 a4 a5 a7 a6 _ _ _ _ _ _ _ _ _ q0 d0 d1 u2 u3 u4 u5 d2 d3 d4 d5 d7 _ qs CN _ rfl (Lib.hid hV) g0 g1 g2 g3 g4 g5 g6 g7 HB ⟨rfl, rfl⟩
  cases p2
  · exact mayAlone_row2 e A n c w hk1 hk9 a0 a1 a2 a3 a4 a5 a7 a6 _ _ _ _ _ _ _ _ _ q0 d0 d1 u2 u3 u4 u5 d2 d3 d4 d5 d7 _ qs CN _ rfl (Lib.hid hV) g0 g1 g2 g3 g4 g5 g6 g7 HB ⟨rfl, rfl, rfl⟩
  cases p3
  · exact mayAlone_row3 e A n c w hk1 hk9 a0 a1 a2 a3 a4 a5 a7 a6 _ _ _ _ _ _ _ _ _ q0 d0 d1 u2 u3 u4 u5 d2 d3 d4 d5 d7 _ qs CN _ rfl (Lib.hid hV) g0 g1 g2 g3 g4 g5 g6 g7 HB ⟨rfl, rfl, rfl, rfl⟩
  cases p4
  · exact mayAlone_row4 e A n c w hk1 hk9 a0 a1 a2 a3 a4 a5 a7 a6 _ _ _ _ _ _ _ _ _ q0 d0 d1 u2 u3 u4 u5 d2 d3 d4 d5 d7 _ qs CN _ rfl (Lib.hid hV) g0 g1 g2 g3 g4 g5 g6 g7 HB ⟨rfl, rfl, rfl, rfl, rfl⟩
  cases p5
  · exact mayAlone_row5 e A n c w hk1 hk9 a0 a1 a2 a3 a4 a5 a7 a6 _ _ _ _ _ _ _ _ _ q0 d0 d1 u2 u3 u4 u5 d2 d3 d4 d5 d7 _ qs CN _ rfl (Lib.hid hV) g0 g1 g2 g3 g4 g5 g6 g7 HB ⟨rfl, rfl, rfl, rfl, rfl, rfl⟩
  generalize isName e.s = bn at *
  generalize decide (e.s = []) = bs at *
  cases a6
  · cases bs
    · exact mayAlone_row8 e A n c w hk1 hk9 a0 a1 a2 a3 a4 a5 a7 false bn false _ _ _ _ _ _ _ q0 d0 d1 u2 u3 u4 u5 d2 d3 d4 d5 d7 _ qs CN _ rfl (Lib.hid hV) g0 g1 g2 g3 g4 g5 g6 g7 HB ⟨rfl, rfl, rfl, rfl, rfl, rfl, rfl, rfl⟩
    · exact mayAlone_row9 e A n c w hk1 hk9 a0 a1 a2 a3 a4 a5 a7 false bn true _ _ _ _ _ _ _ q0 d0 d1 u2 u3 u4 u5 d2 d3 d4 d5 d7 _ qs CN _ rfl (Lib.hid hV) g0 g1 g2 g3 g4 g5 g6 g7 HB ⟨rfl, rfl, rfl, rfl, rfl, rfl, rfl, rfl⟩
  · cases bn
    · exact mayAlone_row6 e A n c w hk1 hk9 a0 a1 a2 a3 a4 a5 a7 true false bs _ _ _ _ _ _ _ q0 d0 d1 u2 u3 u4 u5 d2 d3 d4 d5 d7 _ qs CN _ rfl (Lib.hid hV) g0 g1 g2 g3 g4 g5 g6 g7 HB ⟨rfl, rfl, rfl, rfl, rfl, rfl, rfl, rfl⟩
    · exact mayAlone_row7 e A n c w hk1 hk9 a0 a1 a2 a3 a4 a5 a7 true true bs _ _ _ _ _ _ _ q0 d0 d1 u2 u3 u4 u5 d2 d3 d4 d5 d7 _ qs CN _ rfl (Lib.hid hV) g0 g1 g2 g3 g4 g5 g6 g7 HB ⟨rfl, rfl, rfl, rfl, rfl, rfl, rfl, rfl⟩
end Go.Proofs.YtplcmcealeeppaaGreatDoor
/- Tokens appended to a row that came as an argument: what stays. -/
set_option linter.unusedVariables false
set_option linter.unusedSimpArgs false
namespace Go.Proofs.YtplcmcealeeppaaGreatDoor
open Go Go.RowKit L8 L10

theorem gr_own {X Y Z : World} {A A1 : Option Addr} {n c n1 c1 : Nat} (g : X.grownBy Y (Value.slice A n c).ownBlock) (h : Gr X A A1) (k : Y.grownBy Z (Value.slice A1 n1 c1).ownBlock) : X.grownBy Z (Value.slice A n c).ownBlock :=
  ⟨k.os.trans g.os, k.tape.trans g.tape, k.output.trans g.output, Nat.le_trans g.size k.size, fun i hi hr => (k.block i (Nat.lt_of_lt_of_le hi g.size) (by
    cases A1 with
    | none => simp [Value.ownBlock]
    | some ad1 =>
      rcases h ad1 rfl with ⟨ad, e, hb⟩ | hb
      · subst e
        simp only [Value.ownBlock] at hr ⊢
        rw [← hb]; exact hr
      · simp only [Value.ownBlock]
        intro e
        injection e with e
        omega)).trans (g.block i hi hr)⟩
/-- Rows appended: where the new row lies. -/
theorem run_rwsG {w : World} {base n c m d : Nat} {A A' : Option Addr} {xs ys : List Tk} {ty : TypeId} (hown : OwnR w 47 base A n c xs) (hy : ys.length = m) (hm : 0 < m) (R : RR w A' d ys) (h63 : n + m ≤ 1000000) (hbase : base ≤ w.heap.size) :
    ∃ A2 c2 w', (Builtin.append_ #[39, 39] ty #[.slice A n c, .slice A' m d]).run Tryz.prog w = .ok (.slice A2 (n + m) c2) w' ∧ OwnR w' 47 base A2 (n + m) c2 (xs ++ ys) ∧ w.grownBy w' (Value.slice A n c).ownBlock ∧ Gr w A A2 := by
  obtain ⟨i0, hi0, hz0, hz1, hz2⟩ := info_parts row_info
  obtain ⟨ad, rfl, _⟩ := R.rd 0 (by omega)
  obtain ⟨g, cap, w', hr, h1, h2, h3, _⟩ := run_append_lies (P := Tryz.prog) w 39 ty base 47 i0 (.agg #[.int .u8 0, .int .i64 0, .string ⟨#[]⟩, .int .i32 0]) 4 40 Tryz.underlying39 hi0 hz0 hz1 hz2 rfl (by omega) (.slice A n c) n (rwCs xs) hown ad m d (rwCs ys) (by rw [rwCs_len, hy]) (R.cells rfl) (rwCs_one ys) hm
    (by unfold maxLen; omega) (by omega) hbase w.heap.size rfl
  refine ⟨_, _, w', hr, by unfold OwnR; rw [rwCs_app]; exact h1, h2, fun ad' e => ?_⟩
  injection e with e
  subst e
  rcases h3 with h3 | h3
  · cases A with
    | none => simp [Value.ownBlock] at h3
    | some a => exact .inl ⟨a, rfl, by simpa [Value.ownBlock] using h3⟩
  · exact .inr (by show w.heap.size ≤ g; omega)
theorem app_rwsG {w : World} {ops : Array Oper} {rest : List Oper} {o : Oper} {a : Act} {Q : Exit → Act → World → Prop} (hgd : o.guard = none) (s x : Operand)
    (ho : o.op = .call { callee := .builtin .append, args := #[s, x], argTypes := #[39, 39] }) (base n c m d l : Nat) (A A' : Option Addr) (xs ys : List Tk) (hs : a.eval s = .slice A n c) (hx : a.eval x = .slice A' m d)
    (hown : OwnR w 47 base A n c xs) (hy : ys.length = m) (hm : 0 < m) (R : RR w A' d ys) (hl : n + m = l) (h63 : l ≤ 1000000) (hbase : base ≤ w.heap.size)
    (h : ∀ A2 c2 w', OwnR w' 47 base A2 l c2 (xs ++ ys) → w.grownBy w' (Value.slice A n c).ownBlock → Gr w A A2 → wpList Tryz.prog ops Q rest (a.put o.dst (.slice A2 l c2)) w') : wpList Tryz.prog ops Q (o :: rest) a w := by
  subst hl
  refine wpList_plain hgd fun K hK => ?_
  unfold Oper.wp execOp
  obtain ⟨A2, c2, w', hr, h1, h2, h3⟩ := run_rwsG (ty := o.type) hown hy hm R h63 hbase
  simp only [ho, resolve, invoke, builtin, Sem.run_bind, Sem.run_pure, Result.andThen_ok, List.map_toArray, List.map_cons, List.map_nil, hs, hx, hr]
  exact hK _ _ (h A2 c2 w' h1 h2 h3)
theorem step_rwsG {X : World} {ops : Array Oper} {o : Oper} {a : Act} {K : Act → World → Prop} {Q : Exit → Act → World → Prop} {E : Prop} (hgd : o.guard = none) (s x : Operand)
    (ho : o.op = .call { callee := .builtin .append, args := #[s, x], argTypes := #[39, 39] }) (base n c m d l : Nat) (A A' : Option Addr) (xs ys : List Tk) (hs : a.eval s = .slice A n c) (hx : a.eval x = .slice A' m d)
    (hown : OwnR X 47 base A n c xs) (hy : ys.length = m) (hm : 0 < m) (R : RR X A' d ys) (hl : n + m = l) (h63 : l ≤ 1000000) (hbase : base ≤ X.heap.size)
    (h : ∀ A2 c2 w', OwnR w' 47 base A2 l c2 (xs ++ ys) → X.grownBy w' (Value.slice A n c).ownBlock → Gr X A A2 → K (a.put o.dst (.slice A2 l c2)) w') :
    if Region.wanted o (yielded ops a.tmps) = true then Oper.wp Tryz.prog o a X K Q else E := by
  have hw : Region.wanted o (yielded ops a.tmps) = true := by simp [Region.wanted, hgd]
  rw [if_pos hw]
  subst hl
  obtain ⟨A2, c2, w', hr, h1, h2, h3⟩ := run_rwsG (ty := o.type) hown hy hm R h63 hbase
  unfold Oper.wp execOp
  simp only [ho, resolve, invoke, builtin, Sem.run_bind, Sem.run_pure, Result.andThen_ok, List.map_toArray, List.map_cons, List.map_nil, hs, hx, hr]
  exact h A2 c2 w' h1 h2 h3
/-- w0: where Tokens began; X: where this function's boxes lie, the row at A; Y: now, the row at A'. -/
structure Ap (w0 X : World) (A : Option Addr) (Y : World) (A' : Option Addr) (n c : Nat) (l : List Tk) : Prop where
  bel : Below w0.heap.size w0 Y
  own : OwnR Y 47 w0.heap.size A' n c l
  grw : ∀ n c, X.grownBy Y (Value.slice A n c).ownBlock
  gr : Gr X A A'
theorem ob_any (A : Option Addr) (n c n' c' : Nat) : (Value.slice A n c).ownBlock = (Value.slice A n' c').ownBlock := by cases A <;> rfl
theorem Ap.new {w0 X : World} {A : Option Addr} {n c : Nat} {l : List Tk} (b : Below w0.heap.size w0 X) (o : OwnR X 47 w0.heap.size A n c l) : Ap w0 X A X A n c l := ⟨b, o, fun _ _ => g_refl X _, Gr.refl X A⟩
theorem Ap.below {w0 X Y Z : World} {A A' : Option Addr} {n c : Nat} {l : List Tk} (h : Ap w0 X A Y A' n c l) (b : Below Y.heap.size Y Z) : Ap w0 X A Z A' n c l :=
  ⟨below_b h.bel h.bel.size b, h.own.keep b, fun n c => g_trans (h.grw n c) (g_any (g_of_below b) _), h.gr⟩
theorem Ap.lt {w0 X Y : World} {A A' : Option Addr} {n c : Nat} {l : List Tk} (h : Ap w0 X A Y A' n c l) : w0.heap.size ≤ Y.heap.size := h.bel.size
/-- A step of the row. -/
theorem Ap.app {w0 X Y Z : World} {A A' A2 : Option Addr} {n c n2 c2 : Nat} {l m : List Tk} (h : Ap w0 X A Y A' n c l) (o : OwnR Z 47 w0.heap.size A2 n2 c2 m) (g : Y.grownBy Z (Value.slice A' n c).ownBlock) (k : Gr Y A' A2) : Ap w0 X A Z A2 n2 c2 m :=
  ⟨below_b (h.bel) h.bel.size (Below.refl _ _) |>.trans (by
    refine ⟨g.os, g.tape, g.output, g.size, fun i hi => g.block i (Nat.lt_of_lt_of_le hi h.bel.size) ?_⟩
    cases A' with
    | none => simp [Value.ownBlock]
    | some ad =>
      have := (owned_ge h.own ad rfl).1
      simp [Value.ownBlock]
      omega), o, fun n' c' => gr_own (h.grw n' c') h.gr g, h.gr.trans k (h.grw 0 0).size⟩
theorem Ap.step {w0 X Y Z : World} {A A' A2 : Option Addr} {n c n2 c2 : Nat} {l m : List Tk} (h : Ap w0 X A Y A' n c l) (k : Ap w0 Y A' Z A2 n2 c2 m) : Ap w0 X A Z A2 n2 c2 m := h.app k.own (k.grw n c) k.gr
theorem Ap.box {w0 X Y : World} {A A' : Option Addr} {n c k : Nat} {l : List Tk} {t : TypeId} {cs : Array Value} (h : Ap w0 X A Y A' n c l) (b : BoxS X k t cs) (hk : ∀ ad, A = some ad → ad.block ≠ k) : BoxS Y k t cs := by
  refine b.kept (h.grw 0 0) ?_
  cases A with
  | none => simp [Value.ownBlock]
  | some ad => simp [Value.ownBlock]; exact fun e => hk ad rfl e.symm
theorem Ap.from {w0 w X Y : World} {A A' : Option Addr} {n c : Nat} {l : List Tk} (h : Ap w0 X A Y A' n c l) (b : Below w.heap.size w X) : Ap w0 w A Y A' n c l :=
  ⟨h.bel, h.own, fun n c => g_trans (g_any (g_of_below b) _) (h.grw n c), fun ad e => (h.gr ad e).imp id fun hs => Nat.le_trans b.size hs⟩
def ApR (w0 w : World) (A : Option Addr) (l : List Tk) (en : Ending) (w' : World) : Prop := ∃ A' c', en = .returned (.slice A' l.length c') ∧ Ap w0 w A w' A' l.length c' l
/-- A function's box of the tree, and the row. -/
def ApS (w0 w : World) (e : Ex) (B : Option Addr) (m d : Nat) (A : Option Addr) (Y : World) (A' : Option Addr) (n c : Nat) (l : List Tk) : Prop :=
  Ap w0 (w.alloc (.cells (exC e B m d) 27)) A Y A' n c l ∧ BoxS Y w.heap.size 27 (exC e B m d) ∧ (∀ ad, A = some ad → ad.block ≠ w.heap.size) ∧ T10 Y ∧ TrR Y B d e.l
theorem ApS.new {w0 w : World} {e : Ex} {B A : Option Addr} {m d n c : Nat} {l : List Tk} (b : Below w0.heap.size w0 w) (o : OwnR w 47 w0.heap.size A n c l) (t : T10 w0) (R : TrR w0 B d e.l) : ApS w0 w e B m d A (w.alloc (.cells (exC e B m d) 27)) A n c l := by
  have b2 : Below w0.heap.size w0 (w.alloc (.cells (exC e B m d) 27)) := bal b _
  refine ⟨Ap.new b2 (o.keep (bal (b0 w) _)), boxS_new w _ _, fun ad h => ?_, t.below b2, R.keep b2⟩
  have := (owned_ge o ad h).2.1
  omega
theorem ApS.ap {w0 w Y : World} {e : Ex} {B A A' : Option Addr} {m d n c : Nat} {l : List Tk} (h : ApS w0 w e B m d A Y A' n c l) : Ap w0 w A Y A' n c l := h.1.from (bal (b0 w) _)
theorem ApS.own {w0 w Y : World} {e : Ex} {B A A' : Option Addr} {m d n c : Nat} {l : List Tk} (h : ApS w0 w e B m d A Y A' n c l) : OwnR Y 47 w0.heap.size A' n c l := h.1.own
theorem ApS.bel {w0 w Y : World} {e : Ex} {B A A' : Option Addr} {m d n c : Nat} {l : List Tk} (h : ApS w0 w e B m d A Y A' n c l) : Below w0.heap.size w0 Y := h.1.bel
theorem ApS.lt {w0 w Y : World} {e : Ex} {B A A' : Option Addr} {m d n c : Nat} {l : List Tk} (h : ApS w0 w e B m d A Y A' n c l) : w0.heap.size ≤ Y.heap.size := h.1.lt
theorem ApS.t10 {w0 w Y : World} {e : Ex} {B A A' : Option Addr} {m d n c : Nat} {l : List Tk} (h : ApS w0 w e B m d A Y A' n c l) : T10 Y := h.2.2.2.1
theorem ApS.tr {w0 w Y : World} {e : Ex} {B A A' : Option Addr} {m d n c : Nat} {l : List Tk} (h : ApS w0 w e B m d A Y A' n c l) : TrR Y B d e.l := h.2.2.2.2
theorem ApS.cells {w0 w Y : World} {e : Ex} {B A A' : Option Addr} {m d n c : Nat} {l : List Tk} (h : ApS w0 w e B m d A Y A' n c l) : Y.cell? ⟨w.heap.size, 0, none⟩ = some (.int .u8 (e.k : Int)) ∧ Y.cell? ⟨w.heap.size, 1, none⟩ = some (.int .u8 (e.o : Int)) ∧ Y.cell? ⟨w.heap.size, 2, none⟩ = some (.int .u8 (e.t : Int)) ∧ Y.cell? ⟨w.heap.size, 3, none⟩ = some (.int .i32 e.n) ∧ Y.cell? ⟨w.heap.size, 4, none⟩ = some (.string (strOf e.s)) ∧ Y.cell? ⟨w.heap.size, 5, none⟩ = some (.slice B m d) := box6 h.2.1
theorem ApS.below {w0 w Y Z : World} {e : Ex} {B A A' : Option Addr} {m d n c : Nat} {l : List Tk} (h : ApS w0 w e B m d A Y A' n c l) (b : Below Y.heap.size Y Z) : ApS w0 w e B m d A Z A' n c l :=
  ⟨h.1.below b, h.2.1.below b, h.2.2.1, h.t10.below b, h.tr.keep b⟩
/-- A step of the row keeps the function's box, the tables and the tree (they lie where Tokens began, or in new memory that the row does not take). -/
theorem ApS.app {w0 w Y Z : World} {e : Ex} {B A A' A2 : Option Addr} {m d n c n2 c2 : Nat} {l k : List Tk} (h : ApS w0 w e B m d A Y A' n c l) (t : T10 w0) (R : TrR w0 B d e.l) (o : OwnR Z 47 w0.heap.size A2 n2 c2 k) (g : Y.grownBy Z (Value.slice A' n c).ownBlock) (q : Gr Y A' A2) : ApS w0 w e B m d A Z A2 n2 c2 k := by
  have h1 := h.1.app o g q
  exact ⟨h1, h1.box (boxS_new w _ _) h.2.2.1, h.2.2.1, t.below h1.bel, R.keep h1.bel⟩
theorem ApS.step {w0 w Y Z : World} {e : Ex} {B A A' A2 : Option Addr} {m d n c n2 c2 : Nat} {l k : List Tk} (h : ApS w0 w e B m d A Y A' n c l) (t : T10 w0) (R : TrR w0 B d e.l) (s : Ap w0 Y A' Z A2 n2 c2 k) : ApS w0 w e B m d A Z A2 n2 c2 k := h.app t R s.own (s.grw n c) s.gr
theorem tk_bound : ∀ e : Ex, allE e = true → (tkE e).length ≤ 5 * szE e := by
  refine Ex.ind fun e ih h => ?_
  have ho : ∀ y : Ex, (opT y).length ≤ (tkE y).length + 2 := fun y => by unfold opT par; split <;> simp
  have s1 : ∀ (k o t : Nat) (n : Int) (s : Bs) (y : Ex), szE (.mk k o t n s [y]) = 1 + szE y := fun k o t n s y => by rw [szE, szL, szL]; rfl
  have s2 : ∀ (k o t : Nat) (n : Int) (s : Bs) (a b : Ex), szE (.mk k o t n s [a, b]) = 1 + (szE a + szE b) := fun k o t n s a b => by rw [szE, szL, szL, szL]; rfl
  have s0 : ∀ (k o t : Nat) (n : Int) (s : Bs), szE (.mk k o t n s []) = 1 := fun k o t n s => by rw [szE, szL]
  rcases own_ways (all_own h) with ⟨n, rfl⟩ | ⟨n, _, _, rfl⟩ | ⟨n, _, rfl⟩ | ⟨s, _, rfl⟩ | ⟨s, y, _, rfl⟩ | ⟨o, y, _, _, rfl⟩ | ⟨o, a, b, _, _, rfl⟩ | ⟨t, y, _, rfl⟩ | ⟨s, _, rfl⟩
  · rw [tk_1, s0]; simp
  · rw [tk_2, s0]; simp
  · rw [tk_3, s0]; simp
  · rw [tk_4, s0]; simp
  · have h1 := ih y (by simp [Ex.l]) (all_1 h)
    rw [tk_5, s1]; simp; omega
  · have h1 := ih y (by simp [Ex.l]) (all_1 h)
    have h2 := ho y
    rw [tk_6, s1]; simp; omega
  · have h1 := ih a (by simp [Ex.l]) (all_2 h).1
    have h2 := ih b (by simp [Ex.l]) (all_2 h).2
    have h3 := ho a
    have h4 := ho b
    rw [tk_7, s2]; simp; omega
  · have h1 := ih y (by simp [Ex.l]) (all_1 h)
    have h2 := ho y
    rw [tk_8, s1]; simp; omega
  · rw [tk_9, s0]; simp
end Go.Proofs.YtplcmcealeeppaaGreatDoor
/- The reference: words of operators, marks, tokens at places. -/
set_option linter.unusedVariables false
set_option linter.unusedSimpArgs false
namespace Go.Proofs.YtplcmcealeeppaaGreatDoor
open Go Go.RowKit L8 L10

theorem ss_new {w : World} {e : TypeId} {q : Nat} {ss : List Bs} (hl : ss.length ≤ maxLen) (hq : w.heap[q]? = some (.cells (sC ss).toArray e (0, 0))) : SS w (some ⟨q, 0, none⟩) ss.length ss := by
  refine ⟨Nat.le_refl _, hl, fun j hj => ⟨_, rfl, ?_⟩⟩
  rw [add_plain, Nat.zero_add]
  have := sC_at hj
  simp [World.cell?, hq, this]
theorem RWords_any (w : World) : Calls Tryz.prog 34 #[] w fun e w' => ∃ A, e = .returned (.slice A 26 26) ∧ SS w' A 26 ops ∧ Below w.heap.size w w' := by
  have H := Lib.hid (ss_new (w := w.alloc (.cells (sC ops).toArray 9)) (e := 9) (ss := ops) (by unfold maxLen; decide) (boxS_new w _ _))
  go_enter Tryz.func34, Tryz.ntmps34
  go_wp2
  go_ret
  exact ⟨_, rfl, H.out, bal (b0 w) _⟩
theorem opW_at {o : Nat} (h1 : 1 ≤ o) (h2 : o ≤ 26) : opW o = ops.getD (o - 1) [] := by unfold opW; rw [if_pos ⟨h1, h2⟩]
set_option maxRecDepth 100000 in
theorem RWordX_any (o : Nat) (w : World) : Calls Tryz.prog 11 #[.int .u8 (o : Int)] w fun e w' => e = .returned (.tuple #[.string (strOf (opW o)), .bool (isOp o)]) ∧ Below w.heap.size w w' := by
  have C := Lib.hid (fun (W : World) => RWords_any W)
  have ho0 : (0 : Int) ≤ (o : Int) := by omega
  by_cases h1 : (o : Int) < 1
  · have hr : opW o = [] ∧ isOp o = false := by
      constructor
      · unfold opW; rw [if_neg (by omega)]
      · unfold isOp; rw [decide_eq_false (by omega)]; rfl
    rw [hr.1, hr.2]
    go_enter Tryz.func11, Tryz.ntmps11
    go_wp2
    go_ret2
    exact ⟨rfl, b0 w⟩
  by_cases h2 : 26 < (o : Int)
  · have hr : opW o = [] ∧ isOp o = false := by
      constructor
      · unfold opW; rw [if_neg (by omega)]
      · unfold isOp; rw [decide_eq_false (show ¬ o ≤ 26 by omega)]; simp
    rw [hr.1, hr.2]
    go_enter Tryz.func11, Tryz.ntmps11
    go_wp2
    go_ret2
    exact ⟨rfl, b0 w⟩
  · obtain ⟨q, rfl⟩ : ∃ q, o = q + 1 := ⟨o - 1, by omega⟩
    have hr : isOp (q + 1) = true := by unfold isOp; rw [decide_eq_true (by omega), decide_eq_true (by omega)]; rfl
    rw [hr, opW_at (by omega) (by omega), show q + 1 - 1 = q from rfl]
    have HC : Hid (∀ (X : World) (A : Option Addr), SS X A 26 ops → ∃ ad, A = some ad ∧ X.cell? (ad.add q) = some (.string (strOf (ops.getD q [])))) := Lib.hid fun X A h => h.rd q (by show q < 26; omega)
    clear hr
    generalize strOf (ops.getD q []) = S at *
    have hq : ((q + 1 : Nat) : Int) = (q : Int) + 1 := by omega
    rw [hq] at *
    have hq0 : (0 : Int) ≤ (q : Int) := by omega
    have hq26 : (q : Int) < 26 := by omega
    clear hq
    go_enter Tryz.func11, Tryz.ntmps11
    go_wp2_with (go_at_call 34; (with_reducible refine (C.out _).mono ?_); rintro e w2 ⟨A, rfl, h, b⟩; have H2 := Lib.hid (blw (b0 w) b); obtain ⟨ad, rfl, c0⟩ := HC.out _ _ h; clear b h)
    go_ret2
    exact ⟨rfl, H2.out⟩
set_option maxRecDepth 100000 in
theorem RKeyX_any (s : ByteArray) (w : World) : Calls Tryz.prog 62 #[.string s] w fun e w' => e = .returned (.agg #[.int .u8 2, .int .i64 0, .string s, .int .i32 0]) ∧ Below w.heap.size w w' := by
  go_enter Tryz.func62, Tryz.ntmps62
  go_wp2
  first
  | (go_ret
     exact ⟨rfl, bal (b0 w) _⟩)
  | (refine bodyPost_ret (v := .agg #[.int .u8 2, .int .i64 0, .string s, .int .i32 0]) (by simp [results, Tryz.results62, go_sem]) rfl ⟨rfl, bal (b0 w) _⟩)
set_option maxRecDepth 100000 in
theorem RSymX_any (s : ByteArray) (w : World) : Calls Tryz.prog 63 #[.string s] w fun e w' => e = .returned (.agg #[.int .u8 5, .int .i64 0, .string s, .int .i32 0]) ∧ Below w.heap.size w w' := by
  go_enter Tryz.func63, Tryz.ntmps63
  go_wp2
  first
  | (go_ret
     exact ⟨rfl, bal (b0 w) _⟩)
  | (refine bodyPost_ret (v := .agg #[.int .u8 5, .int .i64 0, .string s, .int .i32 0]) (by simp [results, Tryz.results63, go_sem]) rfl ⟨rfl, bal (b0 w) _⟩)
theorem RTyped_any (k : Nat) (w : World) : Calls Tryz.prog 66 #[.int .u8 (k : Int)] w fun e w' => e = .returned (.string (strOf (wd k))) ∧ w = w' := by
  have q1 : ((k : Int) == 1) = decide (k = 1) := nat_eq10 k 1
  have q2 : ((k : Int) == 2) = decide (k = 2) := nat_eq10 k 2
  have hw : wd k = if decide (k = 1) = true then wInt else if decide (k = 2) = true then wByte else wBool := by
    unfold wd
    by_cases h1 : k = 1 <;> by_cases h2 : k = 2 <;> simp [h1, h2]
  rw [hw]
  clear hw
  generalize decide (k = 1) = b1 at *
  generalize decide (k = 2) = b2 at *
  cases b1 <;> cases b2
  all_goals
    go_enter Tryz.func66, Tryz.ntmps66
    go_wp2
    go_ret
    exact ⟨rfl, rfl⟩
theorem mk_val (o : Nat) : rwV (mk o) = .agg #[.int .u8 ((mk o).k : Int), .int .i64 0, .string (strOf (opW o)), .int .i32 0] := by
  unfold mk
  split <;> rfl
set_option maxRecDepth 100000 in
set_option maxHeartbeats 4000000 in
theorem RMark_any (o : Nat) (w : World) : Calls Tryz.prog 64 #[.int .u8 (o : Int)] w fun e w' => e = .returned (rwV (mk o)) ∧ Below w.heap.size w w' := by
  have HX := Lib.hid (boxS_new w 47 #[.int .u8 0, .int .i64 0, .string ⟨#[]⟩, .int .i32 0])
  have HV := Lib.hid (bal (b0 w) (.cells #[.int .u8 0, .int .i64 0, .string ⟨#[]⟩, .int .i32 0] 47))
  have CW := Lib.hid (fun (W : World) => RWordX_any o W)
  have CK := Lib.hid (fun (W : World) => RKey_any (opW o) W)
  have C1 := Lib.hid (fun (s : ByteArray) (W : World) => RKeyX_any s W)
  have C2 := Lib.hid (fun (s : ByteArray) (W : World) => RSymX_any s W)
  rw [mk_val]
  have hk : (mk o).k = if isKey (opW o) = true then 2 else 5 := by unfold mk; split <;> rfl
  rw [hk]
  generalize isKey (opW o) = b at *
  generalize isOp o = bo at *
  generalize strOf (opW o) = S at *
  clear hk
  cases b
  · go_enter Tryz.func64, Tryz.ntmps64
    go_wp2_with (first
      | (go_at_call 11; (with_reducible refine (CW.out _).mono ?_); rintro e w2 ⟨rfl, b⟩; have HB := Lib.hid (And.intro (blw HV.out b) (HX.out.below b)); clear b)
      | (go_at_call 54; (with_reducible refine (CK.out _).mono ?_); rintro e w3 ⟨rfl, b⟩; have HC := Lib.hid (And.intro (blw HB.out.1 b) (HB.out.2.below b)); clear b)
      | (go_at_call 63; (with_reducible refine (C2.out _ _).mono ?_); rintro e w4 ⟨rfl, b⟩; have HD := Lib.hid (And.intro (blw HC.out.1 b) (HC.out.2.below b)); clear b; obtain ⟨⟨x0, x1, x2, x3⟩, xl⟩ := box4 HD.out.2; obtain ⟨f0, f1, f2, f3⟩ := box4f HD.out.2))
    have HF := Lib.hid (And.intro (box4_all (.int .u8 5) (.int .i64 0) (.string S) (.int .i32 0) HD.out.2) (bset4 HD.out.1 (Nat.le_refl _) (.int .u8 5) (.int .i64 0) (.string S) (.int .i32 0)))
    unfold set4 at HF
    clear x0 x1 x2 x3 f0 f1 f2 f3
    generalize (((w4.setCell ⟨w.heap.size, 0, none⟩ (.int .u8 5)).setCell ⟨w.heap.size, 1, none⟩ (.int .i64 0)).setCell ⟨w.heap.size, 2, none⟩ (.string S)).setCell ⟨w.heap.size, 3, none⟩ (.int .i32 0) = W5 at *
    obtain ⟨⟨y0, y1, y2, y3⟩, yl⟩ := box4 HF.out.1
    refine bodyPost_ret (v := .agg #[.int .u8 5, .int .i64 0, .string S, .int .i32 0]) (by simp [results, Tryz.results64, go_sem, y0, y1, y2, y3]) rfl ⟨rfl, HF.out.2⟩
  · go_enter Tryz.func64, Tryz.ntmps64
    go_wp2_with (first
      | (go_at_call 11; (with_reducible refine (CW.out _).mono ?_); rintro e w2 ⟨rfl, b⟩; have HB := Lib.hid (And.intro (blw HV.out b) (HX.out.below b)); clear b)
      | (go_at_call 54; (with_reducible refine (CK.out _).mono ?_); rintro e w3 ⟨rfl, b⟩; have HC := Lib.hid (And.intro (blw HB.out.1 b) (HB.out.2.below b)); clear b)
      | (go_at_call 62; (with_reducible refine (C1.out _ _).mono ?_); rintro e w4 ⟨rfl, b⟩; have HD := Lib.hid (And.intro (blw HC.out.1 b) (HC.out.2.below b)); clear b; obtain ⟨⟨x0, x1, x2, x3⟩, xl⟩ := box4 HD.out.2; obtain ⟨f0, f1, f2, f3⟩ := box4f HD.out.2))
    have HF := Lib.hid (And.intro (box4_all (.int .u8 2) (.int .i64 0) (.string S) (.int .i32 0) HD.out.2) (bset4 HD.out.1 (Nat.le_refl _) (.int .u8 2) (.int .i64 0) (.string S) (.int .i32 0)))
    unfold set4 at HF
    clear x0 x1 x2 x3 f0 f1 f2 f3
    generalize (((w4.setCell ⟨w.heap.size, 0, none⟩ (.int .u8 2)).setCell ⟨w.heap.size, 1, none⟩ (.int .i64 0)).setCell ⟨w.heap.size, 2, none⟩ (.string S)).setCell ⟨w.heap.size, 3, none⟩ (.int .i32 0) = W5 at *
    obtain ⟨⟨y0, y1, y2, y3⟩, yl⟩ := box4 HF.out.1
    refine bodyPost_ret (v := .agg #[.int .u8 2, .int .i64 0, .string S, .int .i32 0]) (by simp [results, Tryz.results64, go_sem, y0, y1, y2, y3]) rfl ⟨rfl, HF.out.2⟩
/-! ### Equal tokens -/
theorem rwV_eqX (t : Tk) : rwV t = .agg #[.int .u8 (t.k : Int), .int .i64 t.a, .string (strOf t.tx), .int .i32 t.n] := rfl
set_option maxRecDepth 100000 in
theorem eq_tkX (x y : Tk) (w : World) : (Op.equalIn 10000 47 (rwV x) (rwV y)).run Tryz.prog w = .ok (decide (x = y)) w := by
  obtain ⟨k, a, tx, n⟩ := x
  obtain ⟨k', a', tx', n'⟩ := y
  dsimp only [rwV]
  have es := eqS tx tx'
  have ek := nat_eq10 k k'
  have hd : decide ((⟨k, a, tx, n⟩ : Tk) = ⟨k', a', tx', n'⟩) = (decide (k = k') && (decide (a = a') && (decide (tx = tx') && decide (n = n')))) := by
    simp
  rw [hd]
  generalize strOf tx = S at *
  generalize strOf tx' = S' at *
  have u1 := Tryz.underlying45
  have a1 := Tryz.isAgg45
  have z1 := Tryz.sizeOf45
  have u2 := Tryz.underlying3
  have a2 := Tryz.isAgg3
  have z2 := Tryz.sizeOf3
  have u3 := Tryz.underlying9
  have a3 := Tryz.isAgg9
  have z3 := Tryz.sizeOf9
  have u4 := Tryz.underlying21
  have a4 := Tryz.isAgg21
  have z4 := Tryz.sizeOf21
  have hS : Tryz.prog.underlying 47 = some (.struct (Tryz.prog.fieldsOf 47)) := by kernel_rfl
  have hp : Tryz.prog.stoodInHeld 47 = false := by kernel_rfl
  rw [show (10000 : Nat) = 9999 + 1 from rfl, run_equalIn_agg w 9999 47 _ _ hS hp]
  simp only [Program.fieldsOf, Tryz.underlying47]
  go_simp
  by_cases h1 : k = k' <;> by_cases h2 : a = a' <;> by_cases h3 : tx = tx' <;> by_cases h4 : n = n' <;> simp [h1, h2, h3, h4]
/-! ### The operator whose mark a token is -/
theorem find_at {t : Tk} {a n j : Nat} (h1 : a ≤ j) (h2 : j < a + n) (he : t = mk j) (hn : ∀ i, a ≤ i → i < j → t ≠ mk i) : findO t a n = j := by
  unfold findO
  have : (List.range' a n).find? (fun o => decide (t = mk o)) = some j := by
    rw [List.find?_eq_some_iff_getElem]
    refine ⟨decide_eq_true he, j - a, by simp; omega, by simp; omega, fun i hi => ?_⟩
    simp
    exact hn _ (by omega) (by omega)
  rw [this]
  rfl
end Go.Proofs.YtplcmcealeeppaaGreatDoor
