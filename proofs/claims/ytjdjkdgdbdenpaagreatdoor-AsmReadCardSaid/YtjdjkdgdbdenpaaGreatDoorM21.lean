/- The reference's check of lines, and their lengths. -/
import Derived.Test.YtjdjkdgdbdenpaaGreatDoorM20
import Derived.Test.YtjdjkdgdbdenpaaGreatDoorM19
set_option linter.unusedVariables false
set_option linter.unusedSimpArgs false
namespace Go.Proofs.YtjdjkdgdbdenpaaGreatDoor
open Go Go.RowKit

theorem all_bad {ls : List Ln} {k : Nat} (hk : k < ls.length) (h : vld (ls.getD k l0) = false) : chk ls = 2 := by
  unfold chk
  rw [if_neg]
  intro ha
  have := List.all_eq_true.1 ha _ (List.getElem_mem hk)
  have e : ls.getD k l0 = ls[k] := by simp [hk]
  rw [e, this] at h
  cases h
theorem all_ok {ls : List Ln} (h : ∀ j, j < ls.length → vld (ls.getD j l0) = true) : ls.all vld = true := by
  rw [List.all_eq_true]
  intro x hx
  obtain ⟨j, hj, rfl⟩ := List.getElem_of_mem hx
  have := h j hj
  have e : ls.getD j l0 = ls[j] := by simp [hj]
  rwa [e] at this
theorem all_get {ls : List Ln} (h : ls.all vld = true) {j : Nat} (hj : j < ls.length) : vld (ls.getD j l0) = true := by
  have e : ls.getD j l0 = ls[j] := by simp [hj]
  rw [e]
  exact List.all_eq_true.1 h _ (List.getElem_mem hj)
theorem chk_bad {ls : List Ln} {k : Nat} (ha : ls.all vld = true) (hk : k < ls.length) (h : lineOk ls k = false) : chk ls = 60 := by
  unfold chk
  rw [if_pos ha, if_neg]
  intro hb
  have := List.all_eq_true.1 hb k (List.mem_range.2 hk)
  rw [h] at this
  cases this
theorem chk_zero {ls : List Ln} (ha : ls.all vld = true) (h : ∀ j, j < ls.length → lineOk ls j = true) : chk ls = 0 := by
  unfold chk
  rw [if_pos ha, if_pos]
  rw [List.all_eq_true]
  intro j hj
  exact h j (List.mem_range.1 hj)
theorem chk_ok {ls : List Ln} (h : chk ls = 0) : ls.all vld = true ∧ ∀ j, j < ls.length → lineOk ls j = true := by
  unfold chk at h
  split at h
  · rename_i ha
    split at h
    · rename_i hb
      exact ⟨ha, fun j hj => List.all_eq_true.1 hb j (List.mem_range.2 hj)⟩
    · cases h
  · cases h
theorem fit_of {ls : List Ln} (h : chk ls = 0) (ok : OKL ls) (few : ls.length ≤ 1000) : Fit ls :=
  ⟨fun i hi => vld_valid (all_get (chk_ok h).1 hi), fun i _ => (ok.get i).arg, few⟩
theorem refs_of {ls : List Ln} (h : chk ls = 0) : Refs ls := by
  intro i hi
  have := (chk_ok h).2 i hi
  unfold lineOk at this
  simp only [Bool.and_eq_true, Bool.or_eq_true] at this
  obtain ⟨⟨_, h1⟩, h2⟩ := this
  refine ⟨fun e => ?_, fun e => ?_⟩
  · rcases h1 with h1 | h1
    · rw [h1] at e; cases e
    · exact Option.isSome_iff_exists.1 h1
  · rcases h2 with h2 | h2
    · rw [h2] at e; cases e
    · exact Option.isSome_iff_exists.1 h2
theorem atI_neg (ls : List Ln) (n : Bs) : decide (atI ls n < 0) = !(fnd ls n).isSome := by
  unfold atI
  cases fnd ls n with
  | none => rfl
  | some k => simp
theorem atI_ne (ls : List Ln) (n : Bs) (i : Nat) : (atI ls n != (i : Int)) = !decide (fnd ls n = some i) := by
  unfold atI
  cases fnd ls n with
  | none => simp
  | some k =>
    by_cases h : k = i
    · subst h; simp
    · rw [decide_eq_false (by intro e; injection e with e; exact h e)]
      simp; omega
theorem lineOk_as (ls : List Ln) (i : Nat) : lineOk ls i = (((ls.getD i l0).lab.isEmpty || !(atI ls (ls.getD i l0).lab != (i : Int))) && ((ls.getD i l0).tgt.isEmpty || !decide (atI ls (ls.getD i l0).tgt < 0)) && ((ls.getD i l0).fr.isEmpty || !decide (atI ls (ls.getD i l0).fr < 0))) := by
  rw [atI_ne, atI_neg, atI_neg]
  unfold lineOk
  simp only [Bool.not_not]
theorem neq_of {n : Bs} {b : Bool} (h : n.isEmpty = b) : (!(strOf n).toList.isEmpty) = !b := by rw [strOf_empty, h]
set_option maxRecDepth 100000 in
set_option maxHeartbeats 16000000 in
theorem RCheck_any {A : Option Addr} {c m : Nat} {ls : List Ln} {w : World} (R : RL w A c ls) (hm : ls.length = m) : Calls Tryz.prog 15 #[.slice A m c] w fun e w' => e = .returned (.int .i64 (chk ls)) ∧ Below w.heap.size w w' := by
  have HR := Lib.hid R
  have HM := Lib.hid hm
  have hmx : m ≤ maxLen := by have := R.le; have := R.mx; omega
  unfold maxLen at hmx
  have CV := Lib.hid (fun (k : Nat) (W : World) => RValid_any (ls.getD k l0) (R.ok.get k) W)
  have CA := Lib.hid (fun (n : Bs) (W : World) (b : Below w.heap.size w W) => RAt_any n (R.keep b) hm)
  clear R hm
  go_enter Tryz.func15, Tryz.ntmps15
  go_wp2
  go_loopw [3] (fun i wr => ∃ k : Nat, k ≤ m ∧ i = .int .i64 k ∧ Hid (Below w.heap.size w wr ∧ ∀ j, j < k → vld (ls.getD j l0) = true)) (fun i _ => m - (intOf i).toNat)
  case atStart => exact ⟨0, Nat.zero_le _, rfl, Lib.hid ⟨b0 w, fun j hj => absurd hj (by omega)⟩⟩
  case round =>
    obtain ⟨k, hk, rfl, H⟩ := hrel
    by_cases hlt : (k : Int) < (m : Int)
    · obtain ⟨ad, rfl, c0, c1, c2, c3, c4⟩ := (HR.out.keep H.out.1).rd k (by have := HM.out; omega)
      have C1 := Lib.hid (CV.out k wr)
      cases hv : vld (ls.getD k l0) with
      | true =>
        have HY := Lib.hid (show ∀ j, j < k + 1 → vld (ls.getD j l0) = true from fun j hj => if h : j < k then H.out.2 j h else by rw [show j = k by omega]; exact hv)
        rw [hv] at C1
        clear hv
        generalize ls.getD k l0 = x at *
        go_wp2_with (go_at_call 27; refine C1.out.mono ?_; rintro e w1 ⟨rfl, b1⟩; have B1 := Lib.hid (blw H.out.1 b1); clear b1)
        go_roundw
        case rel => exact ⟨k + 1, by omega, by go_num, Lib.hid ⟨B1.out, HY.out⟩⟩
        case measure => simp [intOf]; omega
      | false =>
        have HY := Lib.hid (all_bad (ls := ls) (k := k) (by have := HM.out; omega) hv)
        rw [hv] at C1
        clear hv
        generalize ls.getD k l0 = x at *
        go_wp2_with (go_at_call 27; refine C1.out.mono ?_; rintro e w1 ⟨rfl, b1⟩; have B1 := Lib.hid (blw H.out.1 b1); clear b1)
        go_ret
        rw [HY.out]
        exact ⟨rfl, B1.out⟩
    · obtain rfl : k = m := by omega
      have HA := Lib.hid (all_ok (ls := ls) (by rw [HM.out]; exact H.out.2))
      have HB := Lib.hid H.out.1
      clear H
      generalize wr = W1 at *
      go_wp2
      go_loopw [4] (fun i wr => ∃ k2 : Nat, k2 ≤ k ∧ i = .int .i64 k2 ∧ Hid (Below w.heap.size w wr ∧ ∀ j, j < k2 → lineOk ls j = true)) (fun i _ => k - (intOf i).toNat)
      case atStart => exact ⟨0, Nat.zero_le _, rfl, Lib.hid ⟨HB.out, fun j hj => absurd hj (by omega)⟩⟩
      case round =>
        obtain ⟨k2, hk2, rfl, H⟩ := hrel
        by_cases hlt2 : (k2 : Int) < (k : Int)
        · obtain ⟨ad, rfl, c0, c1, c2, c3, c4⟩ := (HR.out.keep H.out.1).rd k2 (by have := HM.out; omega)
          have HL := lineOk_as ls k2
          have D1 := Lib.hid (fun (W : World) (b : Below w.heap.size w W) => CA.out (ls.getD k2 l0).lab W b)
          have D2 := Lib.hid (fun (W : World) (b : Below w.heap.size w W) => CA.out (ls.getD k2 l0).tgt W b)
          have D3 := Lib.hid (fun (W : World) (b : Below w.heap.size w W) => CA.out (ls.getD k2 l0).fr W b)
          have HN := Lib.hid (fun (h : lineOk ls k2 = true) => (show ∀ j, j < k2 + 1 → lineOk ls j = true from fun j hj => if h' : j < k2 then H.out.2 j h' else by rw [show j = k2 by omega]; exact h))
          have HX := Lib.hid (fun (h : lineOk ls k2 = false) => chk_bad HA.out (k := k2) (by have := HM.out; omega) h)
          obtain ⟨p1, hp1⟩ : ∃ b, (ls.getD k2 l0).lab.isEmpty = b := ⟨_, rfl⟩
          obtain ⟨p2, hp2⟩ : ∃ b, (ls.getD k2 l0).tgt.isEmpty = b := ⟨_, rfl⟩
          obtain ⟨p3, hp3⟩ : ∃ b, (ls.getD k2 l0).fr.isEmpty = b := ⟨_, rfl⟩
          have m1 := strOf_empty (ls.getD k2 l0).lab
          have m2 := strOf_empty (ls.getD k2 l0).tgt
          have m3 := strOf_empty (ls.getD k2 l0).fr
          generalize atI ls (ls.getD k2 l0).lab = a1 at *
          generalize atI ls (ls.getD k2 l0).tgt = a2 at *
          generalize atI ls (ls.getD k2 l0).fr = a3 at *
          generalize lineOk ls k2 = LO at *
          obtain ⟨q1, hq1⟩ : ∃ b, (a1 != (k2 : Int)) = b := ⟨_, rfl⟩
          obtain ⟨q2, hq2⟩ : ∃ b, decide (a2 < 0) = b := ⟨_, rfl⟩
          obtain ⟨q3, hq3⟩ : ∃ b, decide (a3 < 0) = b := ⟨_, rfl⟩
          rw [hp1, hp2, hp3, hq1, hq2, hq3] at HL
          rw [hp1] at m1
          rw [hp2] at m2
          rw [hp3] at m3
          clear hp1 hp2 hp3 hlt
          have BX := Lib.hid (bal H.out.1 (.cells #[.string (strOf (ls.getD k2 l0).lab), .int .u8 ((ls.getD k2 l0).fn : Int), .int .i32 (ls.getD k2 l0).arg, .string (strOf (ls.getD k2 l0).tgt), .string (strOf (ls.getD k2 l0).fr)] 60))
          generalize ls.getD k2 l0 = x at *
          rcases (show (p1 = true) ∨ (p1 = false ∧ q1 = false) ∨ (p1 = false ∧ q1 = true) by cases p1 <;> cases q1 <;> simp) with rfl | ⟨rfl, rfl⟩ | ⟨rfl, rfl⟩
          case inr.inr =>
            simp only [Bool.not_true, Bool.or_false, Bool.false_and] at HL
            subst HL
            go_wp2_with (go_at_call 28; ((with_reducible refine (D1.out _ BX.out).mono ?_); rintro e w1 ⟨rfl, rfl⟩))
            go_ret
            rw [HX.out (by trivial)]
            exact ⟨rfl, BX.out⟩
          all_goals
            rcases (show (p2 = true) ∨ (p2 = false ∧ q2 = false) ∨ (p2 = false ∧ q2 = true) by cases p2 <;> cases q2 <;> simp) with rfl | ⟨rfl, rfl⟩ | ⟨rfl, rfl⟩
            case inr.inr =>
              simp only [Bool.not_true, Bool.not_false, Bool.true_or, Bool.or_true, Bool.or_false, Bool.and_false, Bool.false_and] at HL
              subst HL
              go_wp2_with (first
                | (go_at_call 28; ((with_reducible refine (D1.out _ BX.out).mono ?_); rintro e w1 ⟨rfl, rfl⟩))
                | (go_at_call 28; ((with_reducible refine (D2.out _ BX.out).mono ?_); rintro e w1 ⟨rfl, rfl⟩)))
              go_ret
              rw [HX.out (by trivial)]
              exact ⟨rfl, BX.out⟩
            all_goals
              rcases (show (p3 = true) ∨ (p3 = false ∧ q3 = false) ∨ (p3 = false ∧ q3 = true) by cases p3 <;> cases q3 <;> simp) with rfl | ⟨rfl, rfl⟩ | ⟨rfl, rfl⟩
              all_goals
                simp only [Bool.not_true, Bool.not_false, Bool.true_or, Bool.or_true, Bool.or_false, Bool.and_false, Bool.and_true, Bool.false_and] at HL
                subst HL
                go_wp2_with (first
                  | (go_at_call 28; ((with_reducible refine (D1.out _ BX.out).mono ?_); rintro e w1 ⟨rfl, rfl⟩))
                  | (go_at_call 28; ((with_reducible refine (D2.out _ BX.out).mono ?_); rintro e w1 ⟨rfl, rfl⟩))
                  | (go_at_call 28; ((with_reducible refine (D3.out _ BX.out).mono ?_); rintro e w1 ⟨rfl, rfl⟩)))
                first
                  | (go_roundw
                     case rel => exact ⟨k2 + 1, by omega, by go_num, Lib.hid ⟨BX.out, HN.out (by trivial)⟩⟩
                     case measure => simp [intOf]; omega)
                  | (go_ret
                     rw [HX.out (by trivial)]
                     exact ⟨rfl, BX.out⟩)
        · obtain rfl : k2 = k := by omega
          have HY := Lib.hid (chk_zero HA.out (by rw [HM.out]; exact H.out.2))
          go_wp2
          go_ret
          rw [HY.out]
          exact ⟨rfl, H.out.1⟩
end Go.Proofs.YtjdjkdgdbdenpaaGreatDoor
