/- The laws on part words' checks and on texts return true for all words and strings. -/
import Derived.Test.YtjeicjlaoakgfaaDoorLaws2
namespace Go.Proofs.YtjeicjlaoakgfaaDoor
open Go Go.RowKit

set_option maxRecDepth 100000 in
set_option maxHeartbeats 2000000 in
theorem walkWordChecks (a0 : Int) (w0 : (Lit.int .i32 a0).wf = true) (a1 : Int) (w1 : (Lit.int .i32 a1).wf = true) (a2 : Int) (w2 : (Lit.int .u8 a2).wf = true) (w : World) (ht : Tab w) :
    Calls Tryd.prog 6 #[.int .i32 a0, .int .i32 a1, .int .u8 a2] w fun e w' => e = .returned (.bool true) ∧ Below w.heap.size w w' := by
  have ha := isW_of_wf w0
  have hb := isW_of_wf w1
  have h2 : 0 ≤ a2 ∧ a2 ≤ 255 := by
    simp only [Lit.wf, IntKind.min, IntKind.max, IntKind.signed, IntKind.bits, Bool.and_eq_true] at w2
    simp at w2
    omega
  obtain ⟨h20, h21⟩ := h2
  clear w0 w1 w2
  have hk : isW (a2 % 32) := ⟨by omega, by omega⟩
  have h1 : isW 1 := ⟨by omega, by omega⟩
  have hc : isW (shlR 1 (a2 % 32)) := isW_wrap32 _
  obtain ⟨i0, i1⟩ := index_two a1 (shlR 1 (a2 % 32))
  generalize hS : shlR 1 (a2 % 32) = s at *
  have HS := Lib.hid hS
  clear hS
  go_enter Tryd.func6, Tryd.ntmps6
  go_wp2_with fail
  refine (at_i (RShl_any _ _ h1 hk _) HS.out).mono ?_
  rintro e w' ⟨rfl, rfl⟩
  go_wp2
  refine wp_loop_rounds 3 ?_
  rw [rounds_succ]
  go_wp2_with (first
    | (go_at_call 33; refine (Cword_any _ _ hb _).mono ?_; rintro e w' ⟨rfl, rfl⟩)
    | (go_at_call 34; refine (RCword_any _ _ hb _).mono ?_; rintro e w' ⟨rfl, rfl⟩)
    | (go_at_call 35; refine (Csub0_any _ _ _).mono ?_; rintro e w' ⟨rfl, rfl⟩)
    | (go_at_call 36; refine (RCsub0_any _ _ ha hb _).mono ?_; rintro e w' ⟨rfl, rfl⟩)
    | (go_at_call 37; refine (Ccnt1_any _ _ _).mono ?_; rintro e w' ⟨rfl, rfl⟩)
    | (go_at_call 38; refine (RCcnt1_any _ _ ha hb _).mono ?_; rintro e w' ⟨rfl, rfl⟩)
    | (go_at_call 39; refine (Xword_any _ _ ha hb _).mono ?_; rintro e w' ⟨rfl, rfl⟩)
    | (go_at_call 40; refine (RXword_any _ _ ha hb _).mono ?_; rintro e w' ⟨rfl, rfl⟩))
  rw [rounds_succ]
  go_wp2_with (first
    | (go_at_call 33; refine (Cword_any _ _ hc _).mono ?_; rintro e w' ⟨rfl, rfl⟩)
    | (go_at_call 34; refine (RCword_any _ _ hc _).mono ?_; rintro e w' ⟨rfl, rfl⟩)
    | (go_at_call 35; refine (Csub0_any _ _ _).mono ?_; rintro e w' ⟨rfl, rfl⟩)
    | (go_at_call 36; refine (RCsub0_any _ _ ha hc _).mono ?_; rintro e w' ⟨rfl, rfl⟩)
    | (go_at_call 37; refine (Ccnt1_any _ _ _).mono ?_; rintro e w' ⟨rfl, rfl⟩)
    | (go_at_call 38; refine (RCcnt1_any _ _ ha hc _).mono ?_; rintro e w' ⟨rfl, rfl⟩)
    | (go_at_call 39; refine (Xword_any _ _ ha hc _).mono ?_; rintro e w' ⟨rfl, rfl⟩)
    | (go_at_call 40; refine (RXword_any _ _ ha hc _).mono ?_; rintro e w' ⟨rfl, rfl⟩))
  rw [rounds_succ]
  go_wp2_with (go_at_call 21; refine (works_any _ ht).mono ?_; rintro e w' ⟨rfl, hb1⟩)
  go_ret
  exact ⟨rfl, hb1⟩
theorem below_drewN (w : World) (n : Nat) : Below w.heap.size w (w.drewN n) := ⟨rfl, rfl, rfl, Nat.le_refl _, fun _ _ => rfl⟩
theorem Tab.drewN {w : World} (h : Tab w) (n : Nat) : Tab (w.drewN n) := h.below (below_drewN w n)
set_option maxRecDepth 100000 in
set_option maxHeartbeats 1000000 in
theorem walkWordTexts (a0 : Int) (w0 : (Lit.int .i32 a0).wf = true) (a1 : ByteArray) (w1 : a1.size ≤ maxLen) (w : World) (ht : Tab w) :
    Calls Tryd.prog 7 #[.int .i32 a0, .string a1] w fun e w' => e = .returned (.bool true) ∧ Below w.heap.size w w' := by
  have ha := isW_of_wf w0
  clear w0
  have C := Read_any a1
  have D := fun W => RRead_any a1 W w1
  rw [readC_eq] at C
  have CC := Lib.hid C
  have DD := Lib.hid D
  clear C D w1
  generalize (readR a1.data.toList).1 = r1 at *
  generalize (readR a1.data.toList).2 = r2 at *
  have T0 := Lib.hid fun W hW => Text_any a0 false ha W hW
  have T1 := Lib.hid fun W hW => Text_any a0 true ha W hW
  have R0 := Lib.hid fun W => RText_any a0 false ha W
  have R1 := Lib.hid fun W => RText_any a0 true ha W
  generalize strOf (textL a0 false) = x0 at *
  generalize strOf (textL a0 true) = x1 at *
  go_enter Tryd.func7, Tryd.ntmps7
  go_wp2_with fail
  refine (CC.out _ ht).mono ?_
  rintro e w1 ⟨rfl, hb1⟩
  have ht1 := ht.below hb1
  go_wp2_with fail
  refine (DD.out _).mono ?_
  rintro e w' ⟨rfl, n1, rfl⟩
  have ht2 := ht1.drewN n1
  have hb2 := hb1.trans ((below_drewN w1 n1).mono hb1.size)
  go_wp2_with fail
  refine (T0.out _ ht2).mono ?_
  rintro e w3 ⟨rfl, hb3⟩
  have ht3 := ht2.below hb3
  have hb3' := hb2.trans (hb3.mono hb2.size)
  go_wp2_with fail
  refine (R0.out _).mono ?_
  rintro e w' ⟨rfl, n2, rfl⟩
  have ht4 := ht3.drewN n2
  have hb4 := hb3'.trans ((below_drewN w3 n2).mono hb3'.size)
  go_wp2_with fail
  refine (T1.out _ ht4).mono ?_
  rintro e w5 ⟨rfl, hb5⟩
  have ht5 := ht4.below hb5
  have hb5' := hb4.trans (hb5.mono hb4.size)
  go_wp2_with fail
  refine (R1.out _).mono ?_
  rintro e w' ⟨rfl, n3, rfl⟩
  have ht6 := ht5.drewN n3
  have hb6 := hb5'.trans ((below_drewN w5 n3).mono hb5'.size)
  go_wp2_with fail
  refine (works_any _ ht6).mono ?_
  rintro e w7 ⟨rfl, hb7⟩
  go_wp2
  go_ret
  exact ⟨rfl, hb6.trans (hb7.mono hb6.size)⟩
end Go.Proofs.YtjeicjlaoakgfaaDoor
