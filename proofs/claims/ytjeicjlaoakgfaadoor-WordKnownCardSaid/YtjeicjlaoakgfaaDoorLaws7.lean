/- The chapter's examples, limits, and strings that are not words: the law returns true. -/
import Derived.Test.YtjeicjlaoakgfaaDoorLaws3
namespace Go.Proofs.YtjeicjlaoakgfaaDoor
open Go Go.RowKit

/-- Decimal digits, by a bound on their number. -/
def ddF : Nat → Nat → List UInt8
  | 0, _ => []
  | f + 1, u => if u < 10 then [UInt8.ofNat (48 + u)] else ddF f (u / 10) ++ [UInt8.ofNat (48 + u % 10)]
theorem ddF_eq : ∀ f u, u < 10 ^ f → 1 ≤ f → Lib.decDigits u = ddF f u
  | 0, _, _, h => by omega
  | f + 1, u, h, _ => by
    rw [Lib.decDigits, ddF]
    by_cases h1 : u < 10
    · rw [dif_pos h1, if_pos h1]
    · rw [dif_neg h1, if_neg h1]
      have hf : 1 ≤ f := by
        rcases Nat.eq_zero_or_pos f with h0 | h0
        · subst h0; simp at h; omega
        · exact h0
      rw [Nat.pow_succ] at h
      rw [ddF_eq f (u / 10) (by omega) hf]
def textF (v : Int) (hex : Bool) : List UInt8 := if hex then 35 :: hexDigs 8 (uns v) else if v < 0 then 45 :: ddF 11 v.natAbs else ddF 11 v.toNat
theorem textF_eq (v : Int) (hex : Bool) (hv : isW v) : textL v hex = textF v hex := by
  unfold isW at hv
  have h11 : (10 : Nat) ^ 11 = 100000000000 := by decide
  unfold textL textF Lib.itoa
  rw [ddF_eq 11 v.natAbs (by omega) (by omega), ddF_eq 11 v.toNat (by omega) (by omega)]
def readF (l : List UInt8) : Int × Int := match guessC l with
  | some (n, hex) => if textF (redW n) hex = l then (redW n, 0) else (0, 5)
  | none => (0, 5)
theorem readF_eq (l : List UInt8) : readC l = readF l := by
  unfold readC readF
  cases h : guessC l with
  | none => rfl
  | some x =>
    obtain ⟨n, hex⟩ := x
    simp only [keepT]
    rw [textF_eq (redW n) hex (by rw [← redW_eq]; exact isW_wrap32 n)]
theorem at_rf {w : World} {s : ByteArray} {l : List UInt8} (ht : Tab w) (hl : s.data.toList = l) {a b : Int} (h1 : readF l = (a, b)) :
    Calls Tryd.prog 41 #[.string s] w fun e w' => e = .returned (.tuple #[.int .i32 a, .int .i64 b]) ∧ Below w.heap.size w w' :=
  at_rd ht hl (by rw [readF_eq]; exact h1)
/-- The strings that are not words. -/
def badL : List (List UInt8) := [[], [45], [45, 48], [48, 48], [43, 49], [50, 49, 52, 55, 52, 56, 51, 54, 52, 56], [45, 50, 49, 52, 55, 52, 56, 51, 54, 52, 57], [35], [35, 70, 70, 70, 70, 70, 70, 70], [35, 70, 70, 70, 70, 70, 70, 70, 70, 70], [35, 102, 102, 102, 102, 102, 102, 102, 54], [32, 49]]
def badS (k : Nat) : ByteArray := strOf (badL.getD k [])
theorem badL_no : ∀ k : Fin 12, readF (badL.getD k.val []) = (0, 5) := by decide +kernel
theorem bad_any {w : World} (ht : Tab w) (k : Nat) (hk : k < 12) :
    Calls Tryd.prog 41 #[.string (badS k)] w fun e w' => e = .returned (.tuple #[.int .i32 0, .int .i64 5]) ∧ Below w.heap.size w w' :=
  at_rf ht (strOf_data _) (badL_no ⟨k, hk⟩)
def badA : Array Value := #[.string ⟨#[]⟩, .string ⟨#[45]⟩, .string ⟨#[45, 48]⟩, .string ⟨#[48, 48]⟩, .string ⟨#[43, 49]⟩, .string ⟨#[50, 49, 52, 55, 52, 56, 51, 54, 52, 56]⟩, .string ⟨#[45, 50, 49, 52, 55, 52, 56, 51, 54, 52, 57]⟩, .string ⟨#[35]⟩, .string ⟨#[35, 70, 70, 70, 70, 70, 70, 70]⟩, .string ⟨#[35, 70, 70, 70, 70, 70, 70, 70, 70, 70]⟩, .string ⟨#[35, 102, 102, 102, 102, 102, 102, 102, 54]⟩, .string ⟨#[32, 49]⟩]
theorem bad_at (k : Nat) (hk : k < 12) (W : World) : (Instr.index 42 (.agg badA) (.int .i64 (k : Int))).run Tryd.prog W = .ok (.string (badS k)) W := by
  rcases (by omega : k = 0 ∨ k = 1 ∨ k = 2 ∨ k = 3 ∨ k = 4 ∨ k = 5 ∨ k = 6 ∨ k = 7 ∨ k = 8 ∨ k = 9 ∨ k = 10 ∨ k = 11) with rfl | rfl | rfl | rfl | rfl | rfl | rfl | rfl | rfl | rfl | rfl | rfl <;> kernel_rfl
theorem at_tf {w : World} {v : Int} {hex : Bool} (ht : Tab w) (hv : isW v) {s : ByteArray} (h1 : strOf (textF v hex) = s) :
    Calls Tryd.prog 43 #[.int .i32 v, .bool hex] w fun e w' => e = .returned (.string s) ∧ Below w.heap.size w w' :=
  at_tx ht hv (by rw [textF_eq v hex hv]; exact h1)
set_option maxRecDepth 100000 in
set_option maxHeartbeats 4000000 in
theorem walkWordKnown (w : World) (ht : Tab w) :
    Calls Tryd.prog 12 #[] w fun e w' => e = .returned (.bool true) ∧ Below w.heap.size w w' := by
  have W : ∀ a : Int, decide (-2147483648 ≤ a) && decide (a ≤ 2147483647) = true → isW a := fun a h => by simp at h; exact h
  have c1 := Lib.hid fun w => at_ib (Sub_any (-2147483648) 1 (W _ (by decide)) (W _ (by decide)) w) (b := 2147483647) (q := true) (by decide +kernel) (by decide +kernel)
  have c2 := Lib.hid fun w => at_ib (Div_any 7 0 (W _ (by decide)) w) (b := 0) (q := true) (by decide +kernel) (by decide +kernel)
  have c3 := Lib.hid fun w => at_ib (Div_any (-2147483648) (-1) (W _ (by decide)) w) (b := 0) (q := true) (by decide +kernel) (by decide +kernel)
  have c4 := Lib.hid fun w => at_ib (Rem_any (-2147483648) (-1) (W _ (by decide)) (W _ (by decide)) w) (b := 0) (q := false) (by decide +kernel) (by decide +kernel)
  have c5 := Lib.hid fun w => at_ib (Csub0_any (-1) 10 w) (b := -1) (q := true) rfl (by decide +kernel)
  have c6 := Lib.hid fun w => at_ib (Ccnt1_any 0 5 w) (b := 0) (q := true) rfl (by decide +kernel)
  have c7 := Lib.hid fun w => at_ib (Ccnt1_any 5 5 w) (b := 5) (q := false) rfl (by decide +kernel)
  have c8 := Lib.hid fun w => at_ib (Cword_any (-128) 128 (W _ (by decide)) w) (b := -128) (q := false) rfl (by decide +kernel)
  have c9 := Lib.hid fun w => at_ib (Csub0_any 9 10 w) (b := 9) (q := false) rfl (by decide +kernel)
  have r1 := Lib.hid fun w ht => at_rf (w := w) (s := ⟨#[45, 50, 49, 52, 55, 52, 56, 51, 54, 52, 56]⟩) ht rfl (a := -2147483648) (b := 0) (by decide +kernel)
  have r2 := Lib.hid fun w ht => at_rf (w := w) (s := ⟨#[48]⟩) ht rfl (a := 0) (b := 0) (by decide +kernel)
  have r3 := Lib.hid fun w ht => at_rf (w := w) (s := ⟨#[35, 55, 70, 70, 70, 70, 70, 70, 70]⟩) ht rfl (a := 2147483647) (b := 0) (by decide +kernel)
  have d1 := Lib.hid fun w => at_i (Shl_any 1 32 w) (b := 0) (by decide +kernel)
  have d2 := Lib.hid fun w => at_i (Shr_any (-1) (-1) w) (b := 0) (by decide +kernel)
  have d3 := Lib.hid fun w => at_b (After_any 5 5 (W _ (by decide)) (W _ (by decide)) w) (q := false) (by decide +kernel)
  have t1 := Lib.hid fun w ht => at_tf (w := w) (v := -10) (hex := false) ht (W _ (by decide)) (s := ⟨#[45, 49, 48]⟩) (strOf_eq (by decide +kernel))
  have t2 := Lib.hid fun w ht => at_tf (w := w) (v := 0) (hex := true) ht (W _ (by decide)) (s := ⟨#[35, 48, 48, 48, 48, 48, 48, 48, 48]⟩) (strOf_eq (by decide +kernel))
  clear W
  go_enter Tryd.func12, Tryd.ntmps12
  go_wp2_with fail
  refine (c1.out _).mono ?_
  rintro e w' ⟨rfl, rfl⟩
  go_wp2_with fail
  refine (c2.out _).mono ?_
  rintro e w' ⟨rfl, rfl⟩
  go_wp2_with fail
  refine (c3.out _).mono ?_
  rintro e w' ⟨rfl, rfl⟩
  go_wp2_with fail
  refine (c4.out _).mono ?_
  rintro e w' ⟨rfl, rfl⟩
  go_wp2_with fail
  refine (c5.out _).mono ?_
  rintro e w' ⟨rfl, rfl⟩
  go_wp2_with fail
  refine (c6.out _).mono ?_
  rintro e w' ⟨rfl, rfl⟩
  go_wp2_with fail
  refine (c7.out _).mono ?_
  rintro e w' ⟨rfl, rfl⟩
  go_wp2_with fail
  refine (c8.out _).mono ?_
  rintro e w' ⟨rfl, rfl⟩
  go_wp2_with fail
  refine (c9.out _).mono ?_
  rintro e w' ⟨rfl, rfl⟩
  go_wp2_with (go_at_call 46; refine (is_same _ _ _).mono ?_; rintro e w' ⟨rfl, rfl⟩)
  go_loopw [21, 22, 23, 111] (fun _ _ _ i wr => ∃ k : Nat, k ≤ 12 ∧ i = .int .i64 k ∧ Tab wr ∧ Below w.heap.size w wr) (fun _ _ _ i _ => 12 - (intOf i).toNat)
  case atStart => exact ⟨0, by omega, rfl, ht, Below.refl _ _⟩
  case round =>
    clear ht
    obtain ⟨k, hk, rfl, ht, hb⟩ := hrel
    by_cases hlt : k < 12
    · have hidx : ∀ W : World, (Instr.index 42 (.agg #[.string ⟨#[]⟩, .string ⟨#[45]⟩, .string ⟨#[45, 48]⟩, .string ⟨#[48, 48]⟩, .string ⟨#[43, 49]⟩, .string ⟨#[50, 49, 52, 55, 52, 56, 51, 54, 52, 56]⟩, .string ⟨#[45, 50, 49, 52, 55, 52, 56, 51, 54, 52, 57]⟩, .string ⟨#[35]⟩, .string ⟨#[35, 70, 70, 70, 70, 70, 70, 70]⟩, .string ⟨#[35, 70, 70, 70, 70, 70, 70, 70, 70, 70]⟩, .string ⟨#[35, 102, 102, 102, 102, 102, 102, 102, 54]⟩, .string ⟨#[32, 49]⟩]) (.int .i64 (k : Int))).run Tryd.prog W = .ok (.string (badS k)) W := fun W => bad_at k hlt W
      have C := Lib.hid (bad_any ht k hlt)
      generalize badS k = s at *
      go_wp2_with fail
      refine C.out.mono ?_
      rintro e w1 ⟨rfl, hb1⟩
      go_wp2_with fail
      go_roundw
      case rel => exact ⟨k + 1, by omega, by go_num, ht.below hb1, hb.trans (hb1.mono hb.size)⟩
      case measure => simp [intOf]; omega
    · obtain rfl : k = 12 := by omega
      go_wp2_with fail
      refine (r1.out _ ht).mono ?_
      rintro e w1 ⟨rfl, hb1⟩
      have ht1 := ht.below hb1
      have hb1' := hb.trans (hb1.mono hb.size)
      go_wp2_with fail
      refine (r2.out _ ht1).mono ?_
      rintro e w2 ⟨rfl, hb2⟩
      have ht2 := ht1.below hb2
      have hb2' := hb1'.trans (hb2.mono hb1'.size)
      go_wp2_with fail
      refine (r3.out _ ht2).mono ?_
      rintro e w3 ⟨rfl, hb3⟩
      have ht3 := ht2.below hb3
      have hb3' := hb2'.trans (hb3.mono hb2'.size)
      go_wp2_with fail
      refine (d1.out _).mono ?_
      rintro e w' ⟨rfl, rfl⟩
      go_wp2_with fail
      refine (d2.out _).mono ?_
      rintro e w' ⟨rfl, rfl⟩
      go_wp2_with fail
      refine (d3.out _).mono ?_
      rintro e w' ⟨rfl, rfl⟩
      go_wp2_with fail
      refine (t1.out _ ht3).mono ?_
      rintro e w4 ⟨rfl, hb4⟩
      have ht4 := ht3.below hb4
      have hb4' := hb3'.trans (hb4.mono hb3'.size)
      go_wp2_with fail
      refine (t2.out _ ht4).mono ?_
      rintro e w5 ⟨rfl, hb5⟩
      have ht5 := ht4.below hb5
      have hb5' := hb4'.trans (hb5.mono hb4'.size)
      go_wp2_with fail
      refine (works_any _ ht5).mono ?_
      rintro e w6 ⟨rfl, hb6⟩
      go_wp2
      go_ret
      exact ⟨rfl, hb5'.trans (hb6.mono hb5'.size)⟩
end Go.Proofs.YtjeicjlaoakgfaaDoor
