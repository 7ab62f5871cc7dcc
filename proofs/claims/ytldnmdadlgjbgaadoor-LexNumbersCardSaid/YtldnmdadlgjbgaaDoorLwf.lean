/- LexNumbers: its walk. -/
import Derived.Test.YtldnmdadlgjbgaaDoorLwe
set_option linter.unusedVariables false
set_option linter.unusedSimpArgs false
namespace Go.Proofs.YtldnmdadlgjbgaaDoor
open Go Go.RowKit L8

/-! ### Numbers -/
theorem decz_len (z t : Nat) : (decz z t).length = z + Lib.nDigits t := by unfold decz; rw [List.length_append, List.length_replicate, Lib.decDigits_length]
theorem ndig_le {t : Nat} (h : t < 2147483648) : Lib.nDigits t ≤ 11 ∧ 1 ≤ Lib.nDigits t := ⟨nDigits_le t (by omega), Lib.nDigits_pos t⟩
set_option maxRecDepth 100000 in
set_option maxHeartbeats 16000000 in
theorem walkLexNumbers (a0 : Int) (w0 : (Lit.int .i32 a0).wf = true) (a1 : Int) (w1 : (Lit.int .u8 a1).wf = true) (w : World) (ht : W1.Tab w) :
    Calls Tryd.prog 7 #[.int .i32 a0, .int .u8 a1] w fun e w' => e = .returned (.bool true) ∧ Below w.heap.size w w' := by
  obtain ⟨v0, v1⟩ := W1.isW_of_wf w0
  have hz : 0 ≤ a1 ∧ a1 < 256 := by
    simp only [Lit.wf, IntKind.min, IntKind.max, IntKind.signed, IntKind.bits, Bool.and_eq_true, decide_eq_true_eq] at w1
    simp at w1
    omega
  obtain ⟨y, rfl⟩ : ∃ y : Nat, a1 = (y : Int) := ⟨a1.toNat, by omega⟩
  obtain ⟨y0, y1⟩ := hz
  clear w0 w1
  have HB : Hid (St0 w w) := Lib.hid ⟨b0 w, ht⟩
  have hok : OKx ⟨3, 0, [], a0⟩ := ⟨by unfold maxLen; simp, by show (3 : Nat) < 256; decide, v0, v1⟩
  have hH := hexDigs_length 8 (uns a0)
  have hx := text_hex a0
  have CA := Lib.hid (fun (W : World) (h : W1.Tab W) => awake_any W h)
  have CN := Lib.hid (fun (W : World) => number_any a0 W)
  have CW := Lib.hid (fun (b : Bool) (W : World) (h : W1.Tab W) => wText a0 b v0 v1 W h)
  have CT := Lib.hid (fun (W : World) => cTrim0 ((hexDigs 8 (uns a0)).take 7) W)
  have R1 : Hid (∀ (W : World), W1.Tab W → Calls Tryd.prog 16 #[.string (strOf (textL a0 true)), .slice (some ⟨W.heap.size, 0, none⟩) 1 1] (W.alloc (.cells #[.int .u8 3, .int .i64 0, .string ⟨#[]⟩, .int .i32 a0] 26)) (fun e w' => e = .returned (.bool true) ∧ Below W.heap.size W w')) := Lib.hid fun W h => by
    rw [hx]
    exact reads_one (by unfold maxLen; simp; omega) hok (hex_read a0 v0 v1) W h
  have F1 : Hid (∀ (W : World), W1.Tab W → Calls Tryd.prog 18 #[.string (strOf (textL a0 true ++ [48])), .int .i64 0] W (fun e w' => e = .returned (.bool true) ∧ Below W.heap.size W w')) := Lib.hid fun W h => by
    rw [hx]
    exact fails_at (s := 35 :: (hexDigs 8 (uns a0) ++ [48])) (by unfold maxLen; simp; omega) (hex_more a0) W h
  have R2 : Hid (∀ (W : World), W1.Tab W → Calls Tryd.prog 16 #[.string (strOf (35 :: (cut0 ((hexDigs 8 (uns a0)).take 7) ++ (hexDigs 8 (uns a0)).drop 7))), .slice (some ⟨W.heap.size, 0, none⟩) 1 1] (W.alloc (.cells #[.int .u8 3, .int .i64 0, .string ⟨#[]⟩, .int .i32 a0] 26)) (fun e w' => e = .returned (.bool true) ∧ Below W.heap.size W w')) := Lib.hid fun W h => by
    have hc := cut0_len ((hexDigs 8 (uns a0)).take 7)
    rw [List.length_take] at hc
    exact reads_one (by unfold maxLen; simp; omega) hok (hex_least a0 v0 v1) W h
  have c1 : Op.stringOp .add (strOf (textL a0 true)) ⟨#[48]⟩ = pure (.string (strOf (textL a0 true ++ [48]))) := cat_str (textL a0 true) [48] (by rw [hx]; simp; omega)
  have hsz := size_strOf (textL a0 true)
  rw [show (textL a0 true).length = 9 by rw [hx, List.length_cons, hH]] at hsz
  have k1 : ∀ W : World, (Instr.slice 9 (.string (strOf (textL a0 true))) (some (.int .i64 1)) (some (.int .i64 8)) none).run Tryd.prog W = .ok (.string (strOf ((hexDigs 8 (uns a0)).take 7))) W := fun W => by
    have := cut_mid (textL a0 true) 1 8 (by omega) (by rw [hx, List.length_cons]; omega) W
    rw [hx] at this ⊢
    exact this
  have k2 : ∀ W : World, (Instr.slice 9 (.string (strOf (textL a0 true))) (some (.int .i64 8)) none none).run Tryd.prog W = .ok (.string (strOf ((hexDigs 8 (uns a0)).drop 7))) W := fun W => by
    have := cut_from (textL a0 true) 8 (by rw [hx, List.length_cons]; omega) W
    rw [hx] at this ⊢
    exact this
  have c2 : Op.stringOp .add ⟨#[35]⟩ (strOf (cut0 ((hexDigs 8 (uns a0)).take 7))) = pure (.string (strOf (35 :: cut0 ((hexDigs 8 (uns a0)).take 7)))) := cat_str [35] (cut0 ((hexDigs 8 (uns a0)).take 7)) (by
    have hc := cut0_len ((hexDigs 8 (uns a0)).take 7)
    rw [List.length_take] at hc
    simp; omega)
  have c3 : Op.stringOp .add (strOf (35 :: cut0 ((hexDigs 8 (uns a0)).take 7))) (strOf ((hexDigs 8 (uns a0)).drop 7)) = pure (.string (strOf (35 :: (cut0 ((hexDigs 8 (uns a0)).take 7) ++ (hexDigs 8 (uns a0)).drop 7)))) := cat_str (35 :: cut0 ((hexDigs 8 (uns a0)).take 7)) ((hexDigs 8 (uns a0)).drop 7) (by
    have hc := cut0_len ((hexDigs 8 (uns a0)).take 7)
    rw [List.length_take] at hc
    simp; omega)
  clear hH hx ht
  by_cases hneg : a0 < 0
  · clear hok
    generalize strOf (35 :: (cut0 ((hexDigs 8 (uns a0)).take 7) ++ (hexDigs 8 (uns a0)).drop 7)) = S1 at *
    generalize strOf (35 :: cut0 ((hexDigs 8 (uns a0)).take 7)) = S2 at *
    generalize strOf (cut0 ((hexDigs 8 (uns a0)).take 7)) = S3 at *
    generalize strOf ((hexDigs 8 (uns a0)).take 7) = S4 at *
    generalize strOf ((hexDigs 8 (uns a0)).drop 7) = S5 at *
    generalize strOf (textL a0 true ++ [48]) = S6 at *
    have CW2 : Hid (∀ W : World, W1.Tab W → Calls Tryd.prog 15 #[.int .i32 a0, .bool true] W fun e w' => e = .returned (.string (strOf (textL a0 true))) ∧ Below W.heap.size W w') := Lib.hid (CW.out true)
    clear CW
    generalize strOf (textL a0 true) = S7 at *
    go_enter Tryd.func7, Tryd.ntmps7
    go_wp2_with (go_at_call 15; (with_reducible refine (CW2.out _ HB.out.tab).mono ?_); rintro e u3 ⟨rfl, b⟩; replace HB := Lib.hid (HB.out.step b); clear b)
    replace HB := Lib.hid (show St0 w u3.drew from HB.out.step (bdrew (b0 _) 1))
    go_region_held3 (fun _ => True) (go_keep)
      (first
        | (go_at_call 17; (with_reducible refine (CN.out _).mono ?_); rintro e u1 ⟨rfl, b⟩; replace HB := Lib.hid (HB.out.step b); clear b)
        | (go_at_call 16; (with_reducible refine (R1.out _ HB.out.tab).mono ?_); rintro e u4 ⟨rfl, b⟩; replace HB := Lib.hid (HB.out.step b); clear b)
        | (go_at_call 16; (with_reducible refine (R2.out _ HB.out.tab).mono ?_); rintro e u5 ⟨rfl, b⟩; replace HB := Lib.hid (HB.out.step b); clear b)
        | (go_at_call 18; (with_reducible refine (F1.out _ HB.out.tab).mono ?_); rintro e u6 ⟨rfl, b⟩; replace HB := Lib.hid (HB.out.step b); clear b)
        | (go_at_call 19; (with_reducible refine (CT.out _).mono ?_); rintro e u7 ⟨rfl, rfl⟩))
    all_goals
      go_wp2_with (go_at_call 9; (with_reducible refine (CA.out _ HB.out.tab).mono ?_); rintro e u8 ⟨rfl, b⟩; replace HB := Lib.hid (HB.out.step b); clear b)
      go_ret
      exact ⟨rfl, HB.out.1⟩
  · obtain ⟨t, rfl⟩ : ∃ t : Nat, a0 = (t : Int) := ⟨a0.toNat, by omega⟩
    have ht2 : t < 2147483648 := by omega
    obtain ⟨z, hz⟩ : ∃ z, y % 11 = z := ⟨_, rfl⟩
    have hz10 : z ≤ 10 := by omega
    have em : (y : Int).tmod 11 = (z : Int) := by rw [Int.tmod_eq_emod_of_nonneg (by omega)]; omega
    obtain ⟨nd, nd1⟩ := ndig_le ht2
    have hlen := decz_len z t
    have z0 : (0 : Int) ≤ (z : Int) := by omega
    have z1 : (z : Int) ≤ 10 := by omega
    have CR : Hid (∀ W : World, Calls Tryd.prog 14 #[.string ⟨#[48]⟩, .int .i64 (z : Int)] W fun e w' => e = .returned (.string (strOf (List.replicate z 48))) ∧ Below W.heap.size W w') := Lib.hid fun W => cRepeat1 48 z (by omega) W
    have CW3 : Hid (∀ W : World, W1.Tab W → Calls Tryd.prog 15 #[.int .i32 (t : Int), .bool false] W fun e w' => e = .returned (.string (strOf (Lib.decDigits t))) ∧ Below W.heap.size W w') := Lib.hid fun W h => by
      have := CW.out false W h
      rw [text_pos hneg] at this
      exact this
    have CW2 : Hid (∀ W : World, W1.Tab W → Calls Tryd.prog 15 #[.int .i32 (t : Int), .bool true] W fun e w' => e = .returned (.string (strOf (textL (t : Int) true))) ∧ Below W.heap.size W w') := Lib.hid (CW.out true)
    clear CW
    have c4 : Op.stringOp .add (strOf (List.replicate z 48)) (strOf (Lib.decDigits t)) = pure (.string (strOf (decz z t))) := cat_str (List.replicate z 48) (Lib.decDigits t) (by rw [List.length_replicate, Lib.decDigits_length]; omega)
    have hsd := size_strOf (decz z t)
    obtain ⟨m, hm⟩ : ∃ m, (decz z t).length = m := ⟨_, rfl⟩
    have hm2 : m ≤ 21 := by omega
    have m0 : (0 : Int) ≤ (m : Int) := by omega
    have m1 : (m : Int) ≤ 21 := by omega
    rw [hm] at hsd
    by_cases hbig : 10 < m
    · have F2 := Lib.hid (fun (W : World) (h : W1.Tab W) => fails_at (s := decz z t) (by unfold maxLen; omega) (decz_more (by omega) (by omega)) W h)
      have g1 : decide ((10 : Int) < (m : Int)) = true := decide_eq_true (by omega)
      have g2 : (10 : Int) < (m : Int) := by omega
      clear hok hlen hm hbig hm2 nd nd1 hz hz10 ht2
      generalize strOf (35 :: (cut0 ((hexDigs 8 (uns (t : Int))).take 7) ++ (hexDigs 8 (uns (t : Int))).drop 7)) = S1 at *
      generalize strOf (35 :: cut0 ((hexDigs 8 (uns (t : Int))).take 7)) = S2 at *
      generalize strOf (cut0 ((hexDigs 8 (uns (t : Int))).take 7)) = S3 at *
      generalize strOf ((hexDigs 8 (uns (t : Int))).take 7) = S4 at *
      generalize strOf ((hexDigs 8 (uns (t : Int))).drop 7) = S5 at *
      generalize strOf (textL (t : Int) true ++ [48]) = S6 at *
      generalize strOf (textL (t : Int) true) = S7 at *
      generalize strOf (List.replicate z 48) = S8 at *
      generalize strOf (Lib.decDigits t) = S9 at *
      generalize strOf (decz z t) = S10 at *
      go_enter Tryd.func7, Tryd.ntmps7
      go_wp2_with (go_at_call 15; (with_reducible refine (CW2.out _ HB.out.tab).mono ?_); rintro e u3 ⟨rfl, b⟩; replace HB := Lib.hid (HB.out.step b); clear b)
      replace HB := Lib.hid (show St0 w u3.drew from HB.out.step (bdrew (b0 _) 1))
      go_region_held3 (fun _ => True) (go_keep)
        (first
          | (go_at_call 17; (with_reducible refine (CN.out _).mono ?_); rintro e u1 ⟨rfl, b⟩; replace HB := Lib.hid (HB.out.step b); clear b)
          | (go_at_call 16; (with_reducible refine (R1.out _ HB.out.tab).mono ?_); rintro e u4 ⟨rfl, b⟩; replace HB := Lib.hid (HB.out.step b); clear b)
          | (go_at_call 16; (with_reducible refine (R2.out _ HB.out.tab).mono ?_); rintro e u5 ⟨rfl, b⟩; replace HB := Lib.hid (HB.out.step b); clear b)
          | (go_at_call 18; (with_reducible refine (F1.out _ HB.out.tab).mono ?_); rintro e u6 ⟨rfl, b⟩; replace HB := Lib.hid (HB.out.step b); clear b)
          | (go_at_call 19; (with_reducible refine (CT.out _).mono ?_); rintro e u7 ⟨rfl, rfl⟩))
      all_goals
        go_wp2_with (first
          | (go_at_call 14; (with_reducible refine (CR.out _).mono ?_); rintro e u11 ⟨rfl, b⟩; replace HB := Lib.hid (HB.out.step b); clear b)
          | (go_at_call 15; (with_reducible refine (CW3.out _ HB.out.tab).mono ?_); rintro e u12 ⟨rfl, b⟩; replace HB := Lib.hid (HB.out.step b); clear b)
          | (go_at_call 17; (with_reducible refine (CN.out _).mono ?_); rintro e u13 ⟨rfl, b⟩; replace HB := Lib.hid (HB.out.step b); clear b)
          | (go_at_call 18; (with_reducible refine (F2.out _ HB.out.tab).mono ?_); rintro e u14 ⟨rfl, b⟩; replace HB := Lib.hid (HB.out.step b); clear b)
          | (go_at_call 9; (with_reducible refine (CA.out _ HB.out.tab).mono ?_); rintro e u18 ⟨rfl, b⟩; replace HB := Lib.hid (HB.out.step b); clear b))
        go_ret
        exact ⟨rfl, HB.out.1⟩
    · have F2 := Lib.hid (fun (W : World) (h : W1.Tab W) => fails_at (s := decz z t ++ [120]) (by unfold maxLen; rw [List.length_append]; simp; omega) (decz_then (by decide) (by decide) (by omega)) W h)
      have F3 := Lib.hid (fun (W : World) (h : W1.Tab W) => fails_at (s := decz z t ++ [46]) (by unfold maxLen; rw [List.length_append]; simp; omega) (decz_then (by decide) (by decide) (by omega)) W h)
      have R3 : Hid (∀ (W : World), W1.Tab W → Calls Tryd.prog 16 #[.string (strOf (decz z t)), .slice (some ⟨W.heap.size, 0, none⟩) 1 1] (W.alloc (.cells #[.int .u8 3, .int .i64 0, .string ⟨#[]⟩, .int .i32 (t : Int)] 26)) (fun e w' => e = .returned (.bool true) ∧ Below W.heap.size W w')) := Lib.hid fun W h => reads_one (by unfold maxLen; omega) hok (decz_read ht2 (by omega)) W h
      have c5 : Op.stringOp .add (strOf (decz z t)) ⟨#[120]⟩ = pure (.string (strOf (decz z t ++ [120]))) := cat_str (decz z t) [120] (by simp; omega)
      have c6 : Op.stringOp .add (strOf (decz z t)) ⟨#[46]⟩ = pure (.string (strOf (decz z t ++ [46]))) := cat_str (decz z t) [46] (by simp; omega)
      have g1 : decide ((10 : Int) < (m : Int)) = false := decide_eq_false (by omega)
      have g2 : ¬ (10 : Int) < (m : Int) := by omega
      clear hok hlen hm hbig hm2 nd nd1 hz hz10 ht2
      generalize strOf (35 :: (cut0 ((hexDigs 8 (uns (t : Int))).take 7) ++ (hexDigs 8 (uns (t : Int))).drop 7)) = S1 at *
      generalize strOf (35 :: cut0 ((hexDigs 8 (uns (t : Int))).take 7)) = S2 at *
      generalize strOf (cut0 ((hexDigs 8 (uns (t : Int))).take 7)) = S3 at *
      generalize strOf ((hexDigs 8 (uns (t : Int))).take 7) = S4 at *
      generalize strOf ((hexDigs 8 (uns (t : Int))).drop 7) = S5 at *
      generalize strOf (textL (t : Int) true ++ [48]) = S6 at *
      generalize strOf (textL (t : Int) true) = S7 at *
      generalize strOf (List.replicate z 48) = S8 at *
      generalize strOf (Lib.decDigits t) = S9 at *
      generalize strOf (decz z t ++ [120]) = S11 at *
      generalize strOf (decz z t ++ [46]) = S12 at *
      generalize strOf (decz z t) = S10 at *
      go_enter Tryd.func7, Tryd.ntmps7
      go_wp2_with (go_at_call 15; (with_reducible refine (CW2.out _ HB.out.tab).mono ?_); rintro e u3 ⟨rfl, b⟩; replace HB := Lib.hid (HB.out.step b); clear b)
      replace HB := Lib.hid (show St0 w u3.drew from HB.out.step (bdrew (b0 _) 1))
      go_region_held3 (fun _ => True) (go_keep)
        (first
          | (go_at_call 17; (with_reducible refine (CN.out _).mono ?_); rintro e u1 ⟨rfl, b⟩; replace HB := Lib.hid (HB.out.step b); clear b)
          | (go_at_call 16; (with_reducible refine (R1.out _ HB.out.tab).mono ?_); rintro e u4 ⟨rfl, b⟩; replace HB := Lib.hid (HB.out.step b); clear b)
          | (go_at_call 16; (with_reducible refine (R2.out _ HB.out.tab).mono ?_); rintro e u5 ⟨rfl, b⟩; replace HB := Lib.hid (HB.out.step b); clear b)
          | (go_at_call 18; (with_reducible refine (F1.out _ HB.out.tab).mono ?_); rintro e u6 ⟨rfl, b⟩; replace HB := Lib.hid (HB.out.step b); clear b)
          | (go_at_call 19; (with_reducible refine (CT.out _).mono ?_); rintro e u7 ⟨rfl, rfl⟩))
      all_goals
        go_wp2_with (first
          | (go_at_call 14; (with_reducible refine (CR.out _).mono ?_); rintro e u11 ⟨rfl, b⟩; replace HB := Lib.hid (HB.out.step b); clear b)
          | (go_at_call 15; (with_reducible refine (CW3.out _ HB.out.tab).mono ?_); rintro e u12 ⟨rfl, b⟩; replace HB := Lib.hid (HB.out.step b); clear b)
          | (go_at_call 17; (with_reducible refine (CN.out _).mono ?_); rintro e u13 ⟨rfl, b⟩; replace HB := Lib.hid (HB.out.step b); clear b)
          | (go_at_call 18; (with_reducible refine (F2.out _ HB.out.tab).mono ?_); rintro e u14 ⟨rfl, b⟩; replace HB := Lib.hid (HB.out.step b); clear b)
          | (go_at_call 16; (with_reducible refine (R3.out _ HB.out.tab).mono ?_); rintro e u15 ⟨rfl, b⟩; replace HB := Lib.hid (HB.out.step b); clear b)
          | (go_at_call 18; (with_reducible refine (F3.out _ HB.out.tab).mono ?_); rintro e u16 ⟨rfl, b⟩; replace HB := Lib.hid (HB.out.step b); clear b)
          | (go_at_call 9; (with_reducible refine (CA.out _ HB.out.tab).mono ?_); rintro e u18 ⟨rfl, b⟩; replace HB := Lib.hid (HB.out.step b); clear b))
        go_ret
        exact ⟨rfl, HB.out.1⟩
end Go.Proofs.YtldnmdadlgjbgaaDoor
