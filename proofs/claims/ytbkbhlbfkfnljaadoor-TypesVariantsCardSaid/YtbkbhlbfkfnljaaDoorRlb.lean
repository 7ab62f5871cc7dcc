/- The reference's names and values of digits. -/
import Derived.Test.YtbkbhlbfkfnljaaDoorRla
set_option linter.unusedVariables false
set_option linter.unusedSimpArgs false
namespace Go.Proofs.YtbkbhlbfkfnljaaDoor
open Go Go.RowKit L8

theorem name_no {s : Bs} (h : s = [] ∨ 32 < s.length ∨ letter (s.headD 0) = false ∨ isKey s = true ∨ s.all wordB = false) : isName s = false := by
  unfold isName
  rcases h with rfl | h | h | h | h
  · rfl
  · rw [decide_eq_false (show ¬ s.length ≤ 32 by omega)]; simp
  · rw [h]; simp
  · rw [h]; simp
  · rw [h]; simp
theorem name_yes {s : Bs} (h1 : s ≠ []) (h2 : s.length ≤ 32) (h3 : letter (s.headD 0) = true) (h4 : isKey s = false) (h5 : s.all wordB = true) : isName s = true := by
  unfold isName
  have := List.length_pos_iff.2 h1
  rw [decide_eq_true (show 1 ≤ s.length by omega), decide_eq_true h2, h3, h4, h5]
  rfl
theorem all_snoc {l : Bs} {k : Nat} {f : UInt8 → Bool} (hk : k < l.length) (h : (l.take k).all f = true) (hc : f (l.getD k 0) = true) : (l.take (k + 1)).all f = true := by
  rw [List.take_succ_eq_append_getElem hk, List.all_append, h, Bool.true_and]
  have : l.getD k 0 = l[k] := by simp [hk]
  rw [this] at hc
  simp [hc]
theorem all_bad {l : Bs} {k : Nat} {f : UInt8 → Bool} (hk : k < l.length) (hc : f (l.getD k 0) = false) : l.all f = false := by
  cases h : l.all f with
  | false => rfl
  | true =>
    rw [List.all_eq_true] at h
    have : l.getD k 0 = l[k] := by simp [hk]
    rw [this, h _ (List.getElem_mem hk)] at hc
    cases hc
set_option maxRecDepth 100000 in
set_option maxHeartbeats 4000000 in
theorem RName_any (s : Bs) (hl : s.length ≤ maxLen) (w : World) : Calls Tryd.prog 33 #[.string (strOf s)] w fun e w' => e = .returned (.bool (isName s)) ∧ Below w.heap.size w w' := by
  have hsz := size_strOf s
  obtain ⟨n, hn⟩ : ∃ n, s.length = n := ⟨_, rfl⟩
  rw [hn] at hsz hl
  unfold maxLen at hl
  have hn0 : (0 : Int) ≤ (n : Int) := by omega
  have CL := Lib.hid (fun (k : Nat) (W : World) => Rletter_any (s.getD k 0) W)
  have CK := Lib.hid (fun (W : World) => RKey_any s W)
  have CWd := Lib.hid (fun (k : Nat) (W : World) => Rword_any (s.getD k 0) W)
  by_cases h0 : s = []
  · rw [name_no (.inl h0)]
    have q1 : (n : Int) < 1 := by rw [h0] at hn; simp at hn; omega
    clear hn h0
    go_enter Tryd.func33, Tryd.ntmps33
    go_wp2
    go_ret
    exact ⟨rfl, b0 _⟩
  · have hpos := List.length_pos_iff.2 h0
    have q1 : ¬ (n : Int) < 1 := by omega
    by_cases h32 : (32 : Int) < (n : Int)
    · rw [name_no (.inr (.inl (by omega)))]
      clear hn h0 hpos
      go_enter Tryd.func33, Tryd.ntmps33
      go_wp2
      go_ret
      exact ⟨rfl, b0 _⟩
    · have hi0 : ∀ W : World, (Instr.index 9 (.string (strOf s)) (.int .i64 0)).run Tryd.prog W = .ok (.int .u8 ((s.getD 0 0).toNat : Int)) W := index_l s 0 (by omega)
      have hh : s.headD 0 = s.getD 0 0 := by cases s with | nil => rfl | cons c r => rfl
      have hN1 := @name_no s
      have hN2 := @name_yes s h0 (by omega)
      rw [hh] at hN1 hN2
      have CL0 := Lib.hid (CL.out 0)
      cases hlt : letter (s.getD 0 0) with
      | false =>
        rw [hN1 (.inr (.inr (.inl hlt)))]
        rw [hlt] at CL0
        clear hn h0 hpos hh hN1 hN2 hlt CL CK CWd
        generalize (s.getD 0 0).toNat = N at *
        go_enter Tryd.func33, Tryd.ntmps33
        go_wp2_with (go_at_call 50; (with_reducible refine (CL0.out _).mono ?_); rintro e w1 ⟨rfl, rfl⟩)
        go_ret
        exact ⟨rfl, b0 _⟩
      | true =>
        rw [hlt] at CL0
        cases hk : isKey s with
        | true =>
          rw [hN1 (.inr (.inr (.inr (.inl hk))))]
          rw [hk] at CK
          clear hn h0 hpos hh hN1 hN2 hlt CL CWd hk
          generalize (s.getD 0 0).toNat = N at *
          go_enter Tryd.func33, Tryd.ntmps33
          go_wp2_with (first
            | (go_at_call 50; (with_reducible refine (CL0.out _).mono ?_); rintro e w1 ⟨rfl, rfl⟩)
            | (go_at_call 51; (with_reducible refine (CK.out _).mono ?_); rintro e w2 ⟨rfl, b2⟩; have B2 := Lib.hid b2; clear b2))
          go_ret
          exact ⟨rfl, B2.out⟩
        | false =>
          rw [hk] at CK
          have HNo := Lib.hid (fun h => hN1 (.inr (.inr (.inr (.inr h)))))
          have HYes := Lib.hid (hN2 hlt hk)
          have HM := Lib.hid hn
          have HI := Lib.hid (fun k (h : k < n) => index_l s k (by omega))
          clear hn h0 hpos hh hN1 hN2 hlt CL hk
          generalize (s.getD 0 0).toNat = N at *
          generalize isName s = b at *
          go_enter Tryd.func33, Tryd.ntmps33
          go_wp2_with (first
            | (go_at_call 50; (with_reducible refine (CL0.out _).mono ?_); rintro e w1 ⟨rfl, rfl⟩)
            | (go_at_call 51; (with_reducible refine (CK.out _).mono ?_); rintro e w2 ⟨rfl, b2⟩; have B2 := Lib.hid b2; clear b2))
          clear hi0
          go_loopw [3] (fun i wr => ∃ k : Nat, k ≤ n ∧ i = .int .i64 k ∧ w2 = wr ∧ Hid ((s.take k).all wordB = true)) (fun i _ => n - (intOf i).toNat)
          case atStart => exact ⟨0, Nat.zero_le _, rfl, rfl, Lib.hid (by rw [List.take_zero]; rfl)⟩
          case round =>
            obtain ⟨k, hk, rfl, rfl, H⟩ := hrel
            have hk0 : (0 : Int) ≤ (k : Int) := by omega
            by_cases hk1 : (k : Int) < (n : Int)
            · have hi := HI.out k (by omega)
              have Cw := Lib.hid (CWd.out k)
              have HS := Lib.hid (fun h => all_snoc (l := s) (k := k) (f := wordB) (by have := HM.out; omega) H.out h)
              have HB := Lib.hid (fun h => HNo.out (all_bad (l := s) (k := k) (f := wordB) (by have := HM.out; omega) h))
              generalize s.getD k 0 = c at *
              cases hc : wordB c with
              | false =>
                rw [hc] at Cw
                have HE := Lib.hid (HB.out hc)
                clear hc HS HB H
                generalize c.toNat = M at *
                go_wp2_with (go_at_call 52; (with_reducible refine (Cw.out _).mono ?_); rintro e w3 ⟨rfl, rfl⟩)
                go_ret
                rw [HE.out]
                exact ⟨rfl, B2.out⟩
              | true =>
                rw [hc] at Cw
                have HE := Lib.hid (HS.out hc)
                clear hc HS HB H
                generalize c.toNat = M at *
                go_wp2_with (go_at_call 52; (with_reducible refine (Cw.out _).mono ?_); rintro e w3 ⟨rfl, rfl⟩)
                go_roundw
                case rel => exact ⟨k + 1, by omega, by go_num, trivial, HE⟩
                case measure => simp [intOf]; omega
            · obtain rfl : k = n := by omega
              have HE := Lib.hid (HYes.out (by have h := H.out; rwa [List.take_of_length_le (by have := HM.out; omega)] at h))
              clear H
              go_wp2
              go_ret
              rw [HE.out]
              exact ⟨rfl, B2.out⟩
/-! ### Values -/
def VR (o : Option Nat) (e : Ending) : Prop := match o with
  | some v => e = .returned (.tuple #[.int .i64 (v : Int), .bool true])
  | none => ∃ z : Int, e = .returned (.tuple #[.int .i64 z, .bool false])
theorem value_short {b most lim : Nat} {s : Bs} (h : s.length < 1 ∨ most < s.length) : value b most lim s = none := by unfold value; rw [if_pos h]
theorem value_of {b most lim : Nat} {s : Bs} (h : ¬ (s.length < 1 ∨ most < s.length)) : value b most lim s = match numL b s 0 with | some v => if v < lim then some v else none | none => none := by
  unfold value; rw [if_neg h]
  cases numL b s 0 <;> rfl
theorem numL_step {b : Nat} {s : Bs} {k n : Nat} (h : k < s.length) : numL b (s.drop k) n = match dval b (s.getD k 0) with | some d => numL b (s.drop (k + 1)) (n * b + d) | none => none := by
  have e : s.getD k 0 = s[k] := by simp [h]
  rw [List.drop_eq_getElem_cons h, e]
  rfl
theorem step_bd {b a d k : Nat} (hb : b = 10 ∨ b = 16) (ha : a < 16 ^ k) (hd : d < b) (hk : k < 10) : a * b + d < 16 ^ (k + 1) ∧ a * b ≤ 1099511627776 := by
  have h1 : (a + 1) * 16 ≤ 16 ^ k * 16 := Nat.mul_le_mul_right 16 ha
  have h2 : a * b ≤ a * 16 := Nat.mul_le_mul_left a (by omega)
  have h3 : (16 : Nat) ^ k ≤ 16 ^ 9 := Nat.pow_le_pow_right (by decide) (by omega)
  have h4 : (16 : Nat) ^ 9 = 68719476736 := by decide
  rw [Nat.pow_succ]
  omega
theorem dval_dig {b : Nat} {c : UInt8} (h : digit c = true) : dval b c = some (c.toNat - 48) ∧ 48 ≤ c.toNat ∧ c.toNat ≤ 57 := by
  unfold digit at h
  simp only [Bool.and_eq_true, decide_eq_true_eq] at h
  unfold dval
  rw [if_pos h]
  exact ⟨rfl, h⟩
theorem dval_hex {c : UInt8} (h : digit c = false) (h1 : 65 ≤ c.toNat) (h2 : c.toNat ≤ 70) : dval 16 c = some (c.toNat - 55) := by
  unfold dval
  rw [if_neg (by omega), if_pos ⟨rfl, h1, h2⟩]
theorem dval_no {b : Nat} {c : UInt8} (h : digit c = false) (h1 : b = 10 ∨ c.toNat < 65 ∨ 70 < c.toNat) (hb : b = 10 ∨ b = 16) : dval b c = none := by
  unfold digit at h
  simp only [Bool.and_eq_false_iff, decide_eq_false_iff_not] at h
  unfold dval
  rw [if_neg (by omega), if_neg (by omega)]
end Go.Proofs.YtbkbhlbfkfnljaaDoor
