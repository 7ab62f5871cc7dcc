/- The reference's check of lines, and their lengths. -/
import Derived.Test.YtjdjkdgdbdenpaaDoorM20
import Derived.Test.YtjdjkdgdbdenpaaDoorM19
set_option linter.unusedVariables false
set_option linter.unusedSimpArgs false
namespace Go.Proofs.YtjdjkdgdbdenpaaDoor
open Go Go.RowKit

theorem all_bad {ls : List Ln} {k : Nat} (hk : k < ls.length) (h : vld (ls.getD k l0) = false) : chk ls = 2 := by
  unfold chk
  rw [if_neg]
  intro ha
  have := List.all_eq_true.1 ha _ (List.getElem_mem hk)
  have e : ls.getD k l0 = ls[k] := by simp [hk]
  rw [e, this] at h
  cases h
theorem all_ok {ls : List Ln} (h : ∀ j, j < ls.length → vld (ls.getD j l0) = true) : ls.all vld = true := by
  rw [List.all_eq_true]
  intro x hx
  obtain ⟨j, hj, rfl⟩ := List.getElem_of_mem hx
  have := h j hj
  have e : ls.getD j l0 = ls[j] := by simp [hj]
  rwa [e] at this
theorem all_get {ls : List Ln} (h : ls.all vld = true) {j : Nat} (hj : j < ls.length) : vld (ls.getD j l0) = true := by
  have e : ls.getD j l0 = ls[j] := by simp [hj]
  rw [e]
  exact List.all_eq_true.1 h _ (List.getElem_mem hj)
theorem chk_bad {ls : List Ln} {k : Nat} (ha : ls.all vld = true) (hk : k < ls.length) (h : lineOk ls k = false) : chk ls = 60 := by
  unfold chk
  rw [if_pos ha, if_neg]
  intro hb
  have := List.all_eq_true.1 hb k (List.mem_range.2 hk)
  rw [h] at this
  cases this
theorem chk_zero {ls : List Ln} (ha : ls.all vld = true) (h : ∀ j, j < ls.length → lineOk ls j = true) : chk ls = 0 := by
  unfold chk
  rw [if_pos ha, if_pos]
  rw [List.all_eq_true]
  intro j hj
  exact h j (List.mem_range.1 hj)
theorem chk_ok {ls : List Ln} (h : chk ls = 0) : ls.all vld = true ∧ ∀ j, j < ls.length → lineOk ls j = true := by
  unfold chk at h
  split at h
  · rename_i ha
    split at h
    · rename_i hb
      exact ⟨ha, fun j hj => List.all_eq_true.1 hb j (List.mem_range.2 hj)⟩
    · cases h
  · cases h
theorem fit_of {ls : List Ln} (h : chk ls = 0) (ok : OKL ls) (few : ls.length ≤ 1000) : Fit ls :=
  ⟨fun i hi => vld_valid (all_get (chk_ok h).1 hi), fun i _ => (ok.get i).arg, few⟩
theorem refs_of {ls : List Ln} (h : chk ls = 0) : Refs ls := by
  intro i hi
  have := (chk_ok h).2 i hi
  unfold lineOk at this
  simp only [Bool.and_eq_true, Bool.or_eq_true] at this
  obtain ⟨⟨_, h1⟩, h2⟩ := this
  refine ⟨fun e => ?_, fun e => ?_⟩
  · rcases h1 with h1 | h1
    · rw [h1] at e; cases e
    · exact Option.isSome_iff_exists.1 h1
  · rcases h2 with h2 | h2
    · rw [h2] at e; cases e
    · exact Option.isSome_iff_exists.1 h2
theorem atI_neg (ls : List Ln) (n : Bs) : decide (atI ls n < 0) = !(fnd ls n).isSome := by
  unfold atI
  cases fnd ls n with
  | none => rfl
  | some k => simp
theorem atI_ne (ls : List Ln) (n : Bs) (i : Nat) : (atI ls n != (i : Int)) = !decide (fnd ls n = some i) := by
  unfold atI
  cases fnd ls n with
  | none => simp
  | some k =>
    by_cases h : k = i
    · subst h; simp
    · rw [decide_eq_false (by intro e; injection e with e; exact h e)]
      simp; omega
theorem lineOk_as (ls : List Ln) (i : Nat) : lineOk ls i = (((ls.getD i l0).lab.isEmpty || !(atI ls (ls.getD i l0).lab != (i : Int))) && ((ls.getD i l0).tgt.isEmpty || !decide (atI ls (ls.getD i l0).tgt < 0)) && ((ls.getD i l0).fr.isEmpty || !decide (atI ls (ls.getD i l0).fr < 0))) := by
  rw [atI_ne, atI_neg, atI_neg]
  unfold lineOk
  simp only [Bool.not_not]
theorem neq_of {n : Bs} {b : Bool} (h : n.isEmpty = b) : (!(strOf n).toList.isEmpty) = !b := by rw [strOf_empty, h]
end Go.Proofs.YtjdjkdgdbdenpaaDoor
