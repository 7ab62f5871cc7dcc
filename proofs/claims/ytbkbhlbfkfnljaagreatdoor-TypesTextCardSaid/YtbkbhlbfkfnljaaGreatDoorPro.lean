/- Protocols: which exist, variants by their tags. Plain Lean. -/
import Derived.Test.YtbkbhlbfkfnljaaGreatDoorTyp
set_option linter.unusedVariables false
set_option linter.unusedSimpArgs false
set_option linter.unusedVariables false
set_option linter.unusedSimpArgs false
namespace Go.Proofs.YtbkbhlbfkfnljaaGreatDoor.L9
open Go L8

/-- A variant: its tag, its items' kinds. -/
structure Vr where
  tag : Bs
  it : List Nat
def v0 : Vr := ⟨[], []⟩
def itemsB (l : List Nat) (least : Nat) : Bool := l.all prim && (decide (least ≤ l.length) && decide (l.length ≤ 8))
def mayV (v : Vr) : Bool := isName v.tag && itemsB v.it 0
/-- Variant i is one, and none before it has its tag. -/
def okV (vs : List Vr) (i : Nat) : Prop := mayV (vs.getD i v0) = true ∧ ∀ k, k < i → (vs.getD k v0).tag ≠ (vs.getD i v0).tag
instance (vs : List Vr) (i : Nat) : Decidable (okV vs i) := by unfold okV; infer_instance
def mayP (c : Bool) (vs : List Vr) : Bool :=
  if c = true then decide (1 ≤ vs.length) && (decide (vs.length ≤ 16) && decide (∀ i, i < vs.length → okV vs i))
  else decide (vs.length = 1) && (decide ((vs.getD 0 v0).tag = []) && itemsB (vs.getD 0 v0).it 1)
def idxT (tag : Bs) (vs : List Vr) : Option Nat := vs.findIdx? fun v => decide (v.tag = tag)
def findP (c : Bool) (vs : List Vr) (tag : Bs) : Option Nat := if mayP c vs = true then idxT tag vs else none
/-- What Find returns: the items, the index, whether there is one. -/
def findR (c : Bool) (vs : List Vr) (tag : Bs) : List Nat × Nat × Bool := match findP c vs tag with
  | some i => ((vs.getD i v0).it, i, true)
  | none => ([], 0, false)
theorem all_prim {l : List Nat} : l.all prim = true ↔ ∀ j, j < l.length → prim (l.getD j 0) = true := by
  rw [List.all_eq_true]
  constructor
  · intro h j hj
    have : l.getD j 0 = l[j] := by simp [hj]
    rw [this]
    exact h _ (List.getElem_mem hj)
  · intro h x hx
    obtain ⟨j, hj, rfl⟩ := List.getElem_of_mem hx
    have := h j hj
    have e : l.getD j 0 = l[j] := by simp [hj]
    rwa [e] at this
theorem idx_some {tag : Bs} {vs : List Vr} {i : Nat} : idxT tag vs = some i ↔ i < vs.length ∧ (vs.getD i v0).tag = tag ∧ ∀ k, k < i → (vs.getD k v0).tag ≠ tag := by
  unfold idxT
  rw [List.findIdx?_eq_some_iff_getElem]
  constructor
  · rintro ⟨h, h1, h2⟩
    refine ⟨h, ?_, fun k hk => ?_⟩
    · have e : vs.getD i v0 = vs[i] := by simp [h]
      rw [e]
      simpa using h1
    · have hk2 : k < vs.length := by omega
      have e : vs.getD k v0 = vs[k] := by simp [hk2]
      rw [e]
      simpa using h2 k hk
  · rintro ⟨h, h1, h2⟩
    refine ⟨h, ?_, fun k hk => ?_⟩
    · have e : vs.getD i v0 = vs[i] := by simp [h]
      rw [e] at h1
      simpa using h1
    · have hk2 : k < vs.length := by omega
      have e : vs.getD k v0 = vs[k] := by simp [hk2]
      have := h2 k hk
      rw [e] at this
      simpa using this
theorem idx_none {tag : Bs} {vs : List Vr} : idxT tag vs = none ↔ ∀ k, k < vs.length → (vs.getD k v0).tag ≠ tag := by
  unfold idxT
  rw [List.findIdx?_eq_none_iff]
  constructor
  · intro h k hk
    have e : vs.getD k v0 = vs[k] := by simp [hk]
    rw [e]
    simpa using h _ (List.getElem_mem hk)
  · intro h x hx
    obtain ⟨k, hk, rfl⟩ := List.getElem_of_mem hx
    have := h k hk
    have e : vs.getD k v0 = vs[k] := by simp [hk]
    rw [e] at this
    simpa using this
/-- The tags of a protocol are all different. -/
theorem tags_differ {c : Bool} {vs : List Vr} (h : mayP c vs = true) {i k : Nat} (hi : i < vs.length) (hk : k < i) : (vs.getD k v0).tag ≠ (vs.getD i v0).tag := by
  unfold mayP at h
  split at h
  · simp only [Bool.and_eq_true, decide_eq_true_eq] at h
    exact (h.2.2 i hi).2 k hk
  · simp only [Bool.and_eq_true, decide_eq_true_eq] at h
    omega
/-- Each variant is found by its tag. -/
theorem find_own {c : Bool} {vs : List Vr} (h : mayP c vs = true) {i : Nat} (hi : i < vs.length) : findP c vs (vs.getD i v0).tag = some i := by
  unfold findP
  rw [if_pos h, idx_some]
  exact ⟨hi, rfl, fun k hk => tags_differ h hi hk⟩
theorem findR_own {c : Bool} {vs : List Vr} (h : mayP c vs = true) {i : Nat} (hi : i < vs.length) : findR c vs (vs.getD i v0).tag = ((vs.getD i v0).it, i, true) := by
  unfold findR
  rw [find_own h hi]
theorem findR_not {c : Bool} {vs : List Vr} (h : mayP c vs = false) (tag : Bs) : findR c vs tag = ([], 0, false) := by
  unfold findR findP
  rw [h]
  rfl
theorem mayP_long {c : Bool} {vs : List Vr} (h : 16 < vs.length) : mayP c vs = false := by
  unfold mayP
  split
  · rw [decide_eq_false (show ¬ vs.length ≤ 16 by omega)]; simp
  · rw [decide_eq_false (show ¬ vs.length = 1 by omega)]; rfl
end Go.Proofs.YtbkbhlbfkfnljaaGreatDoor.L9
