/- The reference's labels, valid lines, and the line of a label. -/
import Derived.Test.YtjdjkdgdbdenpaaDoorM17
set_option linter.unusedVariables false
set_option linter.unusedSimpArgs false
namespace Go.Proofs.YtjdjkdgdbdenpaaDoor
open Go Go.RowKit

theorem eqS (a b : Bs) : ((strOf a).toList == (strOf b).toList) = decide (a = b) := by
  have e : (strOf b).data.toList = b := by simp [strOf]
  rw [eq_strOf, e]
def LabInv (l : Bs) (k : Nat) : Prop := (0 < k → isLet (l.getD 0 0) = true) ∧ (l.take k).all isMid = true
theorem labInv_next {l : Bs} {k : Nat} (hk : k < l.length) (h : LabInv l k) (hc : (isLet (l.getD k 0) || (!((k : Int) == 0) && isMid (l.getD k 0))) = true) : LabInv l (k + 1) := by
  have hm : isMid (l.getD k 0) = true := by
    rcases (Bool.or_eq_true _ _).mp hc with h' | h'
    · exact isLet_mid h'
    · exact ((Bool.and_eq_true _ _).mp h').2
  refine ⟨fun _ => ?_, all_snoc hk h.2 hm⟩
  by_cases h0 : k = 0
  · subst h0
    rcases (Bool.or_eq_true _ _).mp hc with h' | h'
    · exact h'
    · exact absurd ((Bool.and_eq_true _ _).mp h').1 (by decide)
  · exact h.1 (by omega)
theorem labInv_bad {l : Bs} {k : Nat} (hk : k < l.length) (hc : (isLet (l.getD k 0) || (!((k : Int) == 0) && isMid (l.getD k 0))) = false) : isLab l = false := by
  rw [Bool.or_eq_false_iff] at hc
  by_cases h0 : k = 0
  · subst h0
    exact isLab_no3 hc.1
  · have : (!((k : Int) == 0)) = true := by simp; omega
    rw [this, Bool.true_and] at hc
    exact isLab_no4 hk hc.2
theorem labInv_end {l : Bs} (h : LabInv l l.length) : isLab l = (decide ((1 : Int) ≤ (l.length : Int)) && decide ((l.length : Int) ≤ 32)) := by
  rw [isLab_eq]
  have h2 := h.2
  rw [List.take_length] at h2
  rw [h2, Bool.and_true]
  cases l with
  | nil => rfl
  | cons c cs =>
    rw [h.1 (by simp), Bool.and_true]
    have : decide ((1 : Int) ≤ ((c :: cs).length : Int)) = true := by simp; omega
    rw [this]
    simp only [List.isEmpty_cons, Bool.not_false, Bool.true_and, decide_eq_decide]
    omega
theorem mid_int (c : UInt8) (n : Nat) (h : c.toNat = n) : isLet c = ((decide ((97 : Int) ≤ (n : Int)) && decide ((n : Int) ≤ 122)) || (decide ((65 : Int) ≤ (n : Int)) && decide ((n : Int) ≤ 90))) ∧
    isMid c = (((decide ((97 : Int) ≤ (n : Int)) && decide ((n : Int) ≤ 122)) || (decide ((65 : Int) ≤ (n : Int)) && decide ((n : Int) ≤ 90))) || ((decide ((48 : Int) ≤ (n : Int)) && decide ((n : Int) ≤ 57)) || ((n : Int) == 46))) := by
  have k1 : decide (65 ≤ n) = decide ((65 : Int) ≤ (n : Int)) := by simp only [decide_eq_decide]; omega
  have k2 : decide (n ≤ 90) = decide ((n : Int) ≤ 90) := by simp only [decide_eq_decide]; omega
  have k3 : decide (97 ≤ n) = decide ((97 : Int) ≤ (n : Int)) := by simp only [decide_eq_decide]; omega
  have k4 : decide (n ≤ 122) = decide ((n : Int) ≤ 122) := by simp only [decide_eq_decide]; omega
  have k5 : decide (48 ≤ n) = decide ((48 : Int) ≤ (n : Int)) := by simp only [decide_eq_decide]; omega
  have k6 : decide (n ≤ 57) = decide ((n : Int) ≤ 57) := by simp only [decide_eq_decide]; omega
  have e : isLet c = ((decide ((97 : Int) ≤ (n : Int)) && decide ((n : Int) ≤ 122)) || (decide ((65 : Int) ≤ (n : Int)) && decide ((n : Int) ≤ 90))) := by
    rw [isLet_as n c h, k1, k2, k3, k4, Bool.or_comm]
  refine ⟨e, ?_⟩
  rw [mid_of, e, isDig_as n c h, k5, k6, h]
theorem fnd_hit {ls : List Ln} {n : Bs} {k : Nat} (hk : k < ls.length) (h : ∀ j, j < k → (ls.getD j l0).lab ≠ n) (he : (ls.getD k l0).lab = n) : fnd ls n = some k := by
  unfold fnd
  rw [List.findIdx?_eq_some_iff_getElem]
  refine ⟨hk, ?_, fun j hj => ?_⟩
  · have e : ls.getD k l0 = ls[k] := by simp [hk]
    rw [e] at he
    simp [he]
  · have e : ls.getD j l0 = ls[j] := by simp [show j < ls.length by omega]
    have := h j hj
    rw [e] at this
    simpa using this
theorem fnd_miss {ls : List Ln} {n : Bs} (h : ∀ j, j < ls.length → (ls.getD j l0).lab ≠ n) : fnd ls n = none := by
  unfold fnd
  rw [List.findIdx?_eq_none_iff]
  intro x hx
  obtain ⟨j, hj, rfl⟩ := List.getElem_of_mem hx
  have := h j hj
  have e : ls.getD j l0 = ls[j] := by simp [hj]
  rw [e] at this
  simpa using this
theorem fnd_some {ls : List Ln} {n : Bs} {k : Nat} (h : fnd ls n = some k) : k < ls.length ∧ (ls.getD k l0).lab = n ∧ ∀ j, j < k → (ls.getD j l0).lab ≠ n := by
  unfold fnd at h
  rw [List.findIdx?_eq_some_iff_getElem] at h
  obtain ⟨hk, h1, h2⟩ := h
  have e : ls.getD k l0 = ls[k] := by simp [hk]
  refine ⟨hk, by rw [e]; simpa using h1, fun j hj => ?_⟩
  have e : ls.getD j l0 = ls[j] := by simp [show j < ls.length by omega]
  rw [e]
  simpa using h2 j hj
theorem fnd_none {ls : List Ln} {n : Bs} (h : fnd ls n = none) : ∀ j, j < ls.length → (ls.getD j l0).lab ≠ n := by
  intro j hj
  unfold fnd at h
  rw [List.findIdx?_eq_none_iff] at h
  have := h _ (List.getElem_mem hj)
  have e : ls.getD j l0 = ls[j] := by simp [hj]
  rw [e]
  simpa using this
def atI (ls : List Ln) (n : Bs) : Int := match fnd ls n with | some k => (k : Int) | none => -1
theorem atI_hit {ls : List Ln} {n : Bs} {k : Nat} (h : fnd ls n = some k) : atI ls n = (k : Int) := by unfold atI; rw [h]
theorem atI_miss {ls : List Ln} {n : Bs} (h : fnd ls n = none) : atI ls n = -1 := by unfold atI; rw [h]
set_option maxRecDepth 100000 in
set_option maxHeartbeats 2000000 in
theorem RAt_any {A : Option Addr} {c m : Nat} {ls : List Ln} (n : Bs) {w : World} (R : RL w A c ls) (hm : ls.length = m) : Calls Tryd.prog 13 #[.slice A m c, .string (strOf n)] w fun e w' => e = .returned (.int .i64 (atI ls n)) ∧ w = w' := by
  have HR := Lib.hid R
  have HM := Lib.hid hm
  have hmx : m ≤ maxLen := by have := R.le; have := R.mx; omega
  unfold maxLen at hmx
  clear R hm
  go_enter Tryd.func13, Tryd.ntmps13
  go_wp2
  go_loop [5] (fun i => ∃ k : Nat, k ≤ m ∧ i = .int .i64 k ∧ Hid (∀ j, j < k → (ls.getD j l0).lab ≠ n)) (fun i => m - (intOf i).toNat)
  case atStart => exact ⟨0, Nat.zero_le _, rfl, Lib.hid (fun j hj => absurd hj (by omega))⟩
  case round =>
    obtain ⟨k, hk, rfl, HA⟩ := hrel
    by_cases hlt : (k : Int) < (m : Int)
    · obtain ⟨ad, rfl, c0, _⟩ := HR.out.rd k (by have := HM.out; omega)
      have hq := eqS (ls.getD k l0).lab n
      by_cases he : (ls.getD k l0).lab = n
      · have HY := Lib.hid (atI_hit (fnd_hit (by have := HM.out; omega) HA.out he))
        rw [decide_eq_true he] at hq
        clear he
        generalize (ls.getD k l0).lab = s at *
        go_wp2
        go_ret
        rw [HY.out]
        exact ⟨rfl, rfl⟩
      · have HY := Lib.hid (show ∀ j, j < k + 1 → (ls.getD j l0).lab ≠ n from fun j hj => if h : j < k then HA.out j h else by rw [show j = k by omega]; exact he)
        rw [decide_eq_false he] at hq
        clear he
        generalize (ls.getD k l0).lab = s at *
        go_wp2
        go_round
        case rel => exact ⟨k + 1, by omega, by go_num, HY⟩
        case measure => simp [intOf]; omega
    · obtain rfl : k = m := by omega
      have HY := Lib.hid (atI_miss (fnd_miss (ls := ls) (n := n) (by rw [HM.out]; exact HA.out)))
      go_wp2
      go_ret
      rw [HY.out]
      exact ⟨rfl, rfl⟩
end Go.Proofs.YtjdjkdgdbdenpaaDoor
