/- The laws on reading back, on the clock and on division return true for all words. -/
import Derived.Test.YtjeicjlaoakgfaaDoorLaws3
namespace Go.Proofs.YtjeicjlaoakgfaaDoor
open Go Go.RowKit

theorem text_same (a b : Int) (ha : isW a) (hb : isW b) (hex : Bool) (s : Bool) (hs : (a == b) = s) : ((strOf (textL a hex)).toList == (strOf (textL b hex)).toList) = s := by
  rw [eq_strOf, strOf_data, ← hs]
  by_cases h : a = b
  · subst h; simp
  · have : textL a hex ≠ textL b hex := fun e => h (text_inj ha.1 ha.2 hb.1 hb.2 e).1
    simp [h, this]
theorem text_other (a b : Int) (ha : isW a) (hb : isW b) (hex : Bool) : ((strOf (textL a hex)).toList == (strOf (textL b (!hex))).toList) = false := by
  rw [eq_strOf, strOf_data]
  have : textL a hex ≠ textL b (!hex) := fun e => by have := (text_inj ha.1 ha.2 hb.1 hb.2 e).2; cases hex <;> cases this
  simp [this]
theorem index_bools : (∀ W : World, (Instr.index 38 (.agg #[.bool false, .bool true]) (.int .i64 0)).run Tryd.prog W = .ok (.bool false) W) ∧ (∀ W : World, (Instr.index 38 (.agg #[.bool false, .bool true]) (.int .i64 1)).run Tryd.prog W = .ok (.bool true) W) :=
  ⟨fun _ => by kernel_rfl, fun _ => by kernel_rfl⟩
set_option maxRecDepth 100000 in
set_option maxHeartbeats 2000000 in
theorem walkWordRound (a0 : Int) (w0 : (Lit.int .i32 a0).wf = true) (a1 : Int) (w1 : (Lit.int .i32 a1).wf = true) (w : World) (ht : Tab w) :
    Calls Tryd.prog 10 #[.int .i32 a0, .int .i32 a1] w fun e w' => e = .returned (.bool true) ∧ Below w.heap.size w w' := by
  have ha := isW_of_wf w0
  have hb := isW_of_wf w1
  clear w0 w1
  have ra := fun (W : World) (hex : Bool) (hW : Tab W) => at_rd (w := W) (s := strOf (textL a0 hex)) hW (strOf_data _) (readC_text a0 hex ha.1 ha.2)
  have A0 := Lib.hid fun (W : World) (hW : Tab W) => Text_any a0 false ha W hW
  have A1 := Lib.hid fun (W : World) (hW : Tab W) => Text_any a0 true ha W hW
  have B0 := Lib.hid fun (W : World) (hW : Tab W) => Text_any a1 false hb W hW
  have B1 := Lib.hid fun (W : World) (hW : Tab W) => Text_any a1 true hb W hW
  have R0 := Lib.hid fun (W : World) (hW : Tab W) => ra W false hW
  have R1 := Lib.hid fun (W : World) (hW : Tab W) => ra W true hW
  clear ra
  have e00 := fun s hs => text_same a0 a1 ha hb false s hs
  have e11 := fun s hs => text_same a0 a1 ha hb true s hs
  have e01 := text_other a0 a1 ha hb false
  have e10 := text_other a0 a1 ha hb true
  simp only [Bool.not_false, Bool.not_true] at e01 e10
  generalize strOf (textL a0 false) = x0 at *
  generalize strOf (textL a0 true) = x1 at *
  generalize strOf (textL a1 false) = y0 at *
  generalize strOf (textL a1 true) = y1 at *
  obtain ⟨i0, i1⟩ := index_bools
  cases hab : (a0 == a1)
  all_goals
    have f00 := e00 _ hab
    have f11 := e11 _ hab
    clear e00 e11
    go_enter Tryd.func10, Tryd.ntmps10
    go_wp2
    refine wp_loop_rounds 3 ?_
    rw [rounds_succ]
    go_wp2_with fail
    refine (A0.out _ ht).mono ?_
    rintro e w1 ⟨rfl, hb1⟩
    have ht1 := ht.below hb1
    go_wp2_with fail
    refine (R0.out _ ht1).mono ?_
    rintro e w2 ⟨rfl, hb2⟩
    have ht2 := ht1.below hb2
    have hb2' := hb1.trans (hb2.mono hb1.size)
    go_wp2_with fail
    refine (B0.out _ ht2).mono ?_
    rintro e w3 ⟨rfl, hb3⟩
    have ht3 := ht2.below hb3
    have hb3' := hb2'.trans (hb3.mono hb2'.size)
    go_wp2_with fail
    refine (B1.out _ ht3).mono ?_
    rintro e w4 ⟨rfl, hb4⟩
    have ht4 := ht3.below hb4
    have hb4' := hb3'.trans (hb4.mono hb3'.size)
    go_wp2_with fail
    rw [rounds_succ]
    go_wp2_with fail
    refine (A1.out _ ht4).mono ?_
    rintro e w5 ⟨rfl, hb5⟩
    have ht5 := ht4.below hb5
    have hb5' := hb4'.trans (hb5.mono hb4'.size)
    go_wp2_with fail
    refine (R1.out _ ht5).mono ?_
    rintro e w6 ⟨rfl, hb6⟩
    have ht6 := ht5.below hb6
    have hb6' := hb5'.trans (hb6.mono hb5'.size)
    go_wp2_with fail
    refine (B1.out _ ht6).mono ?_
    rintro e w7 ⟨rfl, hb7⟩
    have ht7 := ht6.below hb7
    have hb7' := hb6'.trans (hb7.mono hb6'.size)
    go_wp2_with fail
    refine (B0.out _ ht7).mono ?_
    rintro e w8 ⟨rfl, hb8⟩
    have ht8 := ht7.below hb8
    have hb8' := hb7'.trans (hb8.mono hb7'.size)
    go_wp2_with fail
    rw [rounds_succ]
    go_wp2_with fail
    refine (works_any _ ht8).mono ?_
    rintro e w9 ⟨rfl, hb9⟩
    go_wp2
    go_ret
    exact ⟨rfl, hb8'.trans (hb9.mono hb8'.size)⟩

/-! ### The clock -/
theorem aft_self (a : Int) : aftB a a = false := by
  unfold aftB wrap32
  simp
theorem aft_moved (a b c : Int) : aftB (wrap32 (a + c)) (wrap32 (b + c)) = aftB a b := by
  have h : wrap32 (wrap32 (a + c) - wrap32 (b + c)) = wrap32 (a - b) := by unfold wrap32; omega
  unfold aftB
  rw [h]
theorem sum_back (a b : Int) (ha : isW a) : wrap32 (b + wrap32 (a - b)) = a := by
  unfold isW at ha
  unfold wrap32
  omega
set_option maxRecDepth 100000 in
set_option maxHeartbeats 1000000 in
theorem walkWordClock (a0 : Int) (w0 : (Lit.int .i32 a0).wf = true) (a1 : Int) (w1 : (Lit.int .i32 a1).wf = true) (a2 : Int) (w2 : (Lit.int .i32 a2).wf = true) (w : World) (ht : Tab w) :
    Calls Tryd.prog 9 #[.int .i32 a0, .int .i32 a1, .int .i32 a2] w fun e w' => e = .returned (.bool true) ∧ Below w.heap.size w w' := by
  have ha := isW_of_wf w0
  have hb := isW_of_wf w1
  have hc := isW_of_wf w2
  clear w0 w1 w2
  have hac : isW (wrap32 (a0 + a2)) := isW_wrap32 _
  have hbc : isW (wrap32 (a1 + a2)) := isW_wrap32 _
  have hd : isW (wrap32 (a0 - a1)) := isW_wrap32 _
  have hmv := aft_moved a0 a1 a2
  have hsb := sum_back a0 a1 ha
  have c1 := Lib.hid fun W => After_any a0 a1 ha hb W
  have c2 := Lib.hid fun W => After_any a1 a0 hb ha W
  have c3 := Lib.hid fun W => Diff_any a0 a1 ha hb W
  have c4 := Lib.hid fun W => Sum_any a0 a2 ha hc W
  have c5 := Lib.hid fun W => Sum_any a1 a2 hb hc W
  have c6 := Lib.hid fun W => at_b (After_any (wrap32 (a0 + a2)) (wrap32 (a1 + a2)) hac hbc W) hmv
  have c7 := Lib.hid fun W => at_b (After_any a0 a0 ha ha W) (aft_self a0)
  have c8 := Lib.hid fun W => at_i (Sum_any a1 (wrap32 (a0 - a1)) hb hd W) hsb
  have hcases : (aftB a0 a1 = true ∧ aftB a1 a0 = false ∧ ((wrap32 (a0 - a1)) == 0) = false ∧ ((wrap32 (a0 - a1)) == -2147483648) = false) ∨
      (aftB a0 a1 = false ∧ aftB a1 a0 = true ∧ ((wrap32 (a0 - a1)) == 0) = false ∧ ((wrap32 (a0 - a1)) == -2147483648) = false) ∨
      (aftB a0 a1 = false ∧ aftB a1 a0 = false ∧ ((wrap32 (a0 - a1)) == 0) = true) ∨
      (aftB a0 a1 = false ∧ aftB a1 a0 = false ∧ ((wrap32 (a0 - a1)) == 0) = false ∧ ((wrap32 (a0 - a1)) == -2147483648) = true) := by
    unfold aftB
    have h : wrap32 (a1 - a0) = wrap32 (0 - wrap32 (a0 - a1)) := by unfold wrap32; omega
    rw [h]
    have hd' := hd
    unfold isW at hd'
    generalize wrap32 (a0 - a1) = d at *
    rcases (by omega : 0 < d ∨ d = 0 ∨ d = -2147483648 ∨ (d < 0 ∧ -2147483648 < d)) with h1 | h1 | h1 | h1
    · refine .inl ⟨by simpa using h1, ?_, ?_, ?_⟩
      · unfold wrap32; simp; omega
      · simp; omega
      · simp; omega
    · subst h1
      exact .inr (.inr (.inl ⟨by decide, by decide +kernel, by decide⟩))
    · subst h1
      exact .inr (.inr (.inr ⟨by decide, by decide +kernel, by decide, by decide⟩))
    · refine .inr (.inl ⟨?_, ?_, ?_, ?_⟩)
      · simp; omega
      · unfold wrap32; simp; omega
      · simp; omega
      · simp; omega
  clear hmv hsb
  generalize wrap32 (a0 - a1) = d at *
  generalize wrap32 (a0 + a2) = x at *
  generalize wrap32 (a1 + a2) = y at *
  generalize aftB a0 a1 = p at *
  generalize aftB a1 a0 = q at *
  have W := Lib.hid (works_any w ht)
  clear ht ha hb hc hac hbc hd
  rcases hcases with ⟨rfl, rfl, d0, d1⟩ | ⟨rfl, rfl, d0, d1⟩ | ⟨rfl, rfl, d0⟩ | ⟨rfl, rfl, d0, d1⟩
  all_goals
    go_enter Tryd.func9, Tryd.ntmps9
    go_wp2_with fail
    refine (c1.out _).mono ?_
    rintro e w' ⟨rfl, rfl⟩
    go_wp2_with fail
    refine (c2.out _).mono ?_
    rintro e w' ⟨rfl, rfl⟩
    go_wp2_with fail
    refine (c3.out _).mono ?_
    rintro e w' ⟨rfl, rfl⟩
    go_wp2_with fail
    refine (c4.out _).mono ?_
    rintro e w' ⟨rfl, rfl⟩
    go_wp2_with fail
    refine (c5.out _).mono ?_
    rintro e w' ⟨rfl, rfl⟩
    go_wp2_with fail
    refine (c6.out _).mono ?_
    rintro e w' ⟨rfl, rfl⟩
    go_wp2_with fail
    refine (c7.out _).mono ?_
    rintro e w' ⟨rfl, rfl⟩
    go_wp2_with fail
    refine (c8.out _).mono ?_
    rintro e w' ⟨rfl, rfl⟩
    go_wp2_with fail
    refine (W.out).mono ?_
    rintro e w1 ⟨rfl, hb1⟩
    go_wp2
    go_ret
    exact ⟨rfl, hb1⟩
end Go.Proofs.YtjeicjlaoakgfaaDoor
