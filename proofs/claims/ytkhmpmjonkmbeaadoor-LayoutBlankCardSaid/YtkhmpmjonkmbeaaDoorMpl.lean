/- Valid rows, one by one; the source text, row by row. Plain Lean. -/
import Derived.Test.YtkhmpmjonkmbeaaDoorRpl
set_option linter.unusedVariables false
set_option linter.unusedSimpArgs false
namespace Go.Proofs.YtkhmpmjonkmbeaaDoor.L7
open Go

def pvN (n0 : Int) (l : List Rw) (k : Nat) : Int := if k = 0 then n0 else (l.getD (k - 1) z0).no
def pvD (d0 : Int) (l : List Rw) (k : Nat) : Int := if k = 0 then d0 else (l.getD (k - 1) z0).dp
def okX (pn pd : Int) (x : Rw) : Bool := decide (pn < x.no) && decide (x.no ≤ 65536) && decide (0 ≤ x.dp) && decide (x.dp ≤ pd + 1) && decide (x.dp ≤ 32) && fine x.tx
theorem okRows_iff (l : List Rw) : ∀ (n0 d0 : Int), okRows n0 d0 l = true ↔ ∀ k, k < l.length → okX (pvN n0 l k) (pvD d0 l k) (l.getD k z0) = true := by
  induction l with
  | nil => intro n0 d0; exact ⟨fun _ k hk => absurd hk (by simp), fun _ => rfl⟩
  | cons x r ih =>
    intro n0 d0
    have e : okRows n0 d0 (x :: r) = (okX n0 d0 x && okRows x.no x.dp r) := rfl
    rw [e, Bool.and_eq_true, ih x.no x.dp]
    constructor
    · rintro ⟨h1, h2⟩ k hk
      cases k with
      | zero => exact h1
      | succ k =>
        have := h2 k (by simpa using hk)
        cases k with
        | zero => exact this
        | succ k => exact this
    · intro h
      refine ⟨h 0 (by simp), fun k hk => ?_⟩
      have := h (k + 1) (by simpa using hk)
      cases k with
      | zero => exact this
      | succ k => exact this
/-- All rows before k are right. -/
def OkTo (l : List Rw) (k : Nat) : Prop := ∀ j, j < k → okX (pvN 0 l j) (pvD (-1) l j) (l.getD j z0) = true
theorem okTo_succ {l : List Rw} {k : Nat} (h : OkTo l k) (hk : okX (pvN 0 l k) (pvD (-1) l k) (l.getD k z0) = true) : OkTo l (k + 1) := fun j hj =>
  if h2 : j < k then h j h2 else by rw [show j = k by omega]; exact hk
theorem may_bad {l : List Rw} {k : Nat} (hk : k < l.length) (h : okX (pvN 0 l k) (pvD (-1) l k) (l.getD k z0) = false) : may l = false := by
  unfold may
  have : okRows 0 (-1) l = false := by
    cases ho : okRows 0 (-1) l with
    | false => rfl
    | true =>
      have := (okRows_iff l 0 (-1)).1 ho k hk
      rw [h] at this
      cases this
  rw [this, Bool.and_false]
  rfl
theorem may_long {l : List Rw} (h : 2048 < l.length) : may l = false := by
  unfold may
  rw [decide_eq_false (by omega)]
  rfl
theorem may_end {l : List Rw} (h : l.length ≤ 2048) (ho : OkTo l l.length) : may l = decide (size l ≤ 65537) := by
  unfold may
  rw [decide_eq_true h, (okRows_iff l 0 (-1)).2 ho]
  rfl
theorem ok_bounds {pn pd : Int} {x : Rw} (h : okX pn pd x = true) : pn < x.no ∧ x.no ≤ 65536 ∧ 0 ≤ x.dp ∧ x.dp ≤ 32 ∧ fine x.tx = true ∧ x.tx.length ≤ 256 := by
  unfold okX at h
  simp only [Bool.and_eq_true, decide_eq_true_eq] at h
  obtain ⟨⟨⟨⟨⟨h1, h2⟩, h3⟩, h4⟩, h5⟩, h6⟩ := h
  exact ⟨h1, h2, h3, h5, h6, (fine_parts h6).le⟩
theorem pv_bounds {l : List Rw} {k : Nat} (h : OkTo l k) (hk : k ≤ l.length) : 0 ≤ pvN 0 l k ∧ pvN 0 l k ≤ 65536 ∧ -1 ≤ pvD (-1) l k ∧ pvD (-1) l k ≤ 32 := by
  induction k with
  | zero => unfold pvN pvD; rw [if_pos rfl, if_pos rfl]; omega
  | succ k ih =>
    have h1 := ih (fun j hj => h j (by omega)) (by omega)
    have h2 := ok_bounds (h k (by omega))
    unfold pvN pvD
    rw [if_neg (by omega), if_neg (by omega), Nat.add_sub_cancel]
    omega
theorem size_snoc {l : List Rw} {k : Nat} (hk : k < l.length) : size (l.take (k + 1)) = size (l.take k) + (2 * (l.getD k z0).dp.toNat + (l.getD k z0).tx.length + 1) := by
  unfold size
  rw [List.take_succ_eq_append_getElem hk, List.map_append, List.sum_append]
  have : l.getD k z0 = l[k] := by simp [hk]
  rw [this]
  simp
theorem size_to {l : List Rw} {k : Nat} (h : OkTo l k) (hk : k ≤ l.length) : size (l.take k) ≤ 321 * k := by
  induction k with
  | zero => simp [size]
  | succ k ih =>
    have h1 := ih (fun j hj => h j (by omega)) (by omega)
    have h2 := ok_bounds (h k (by omega))
    rw [size_snoc (by omega)]
    omega
theorem may_ok {l : List Rw} (h : may l = true) : l.length ≤ 2048 ∧ OkTo l l.length ∧ size l ≤ 65537 := by
  unfold may at h
  simp only [Bool.and_eq_true, decide_eq_true_eq] at h
  exact ⟨h.1.1, (okRows_iff l 0 (-1)).1 h.1.2, h.2⟩
theorem src_len {l : List Rw} {k : Nat} (h : OkTo l k) (hk : k ≤ l.length) : (srcOf (l.take k)).length = size (l.take k) := by
  induction k with
  | zero => simp [size, srcOf]
  | succ k ih =>
    have h1 := ih (fun j hj => h j (by omega)) (by omega)
    rw [size_snoc (by omega), ← h1]
    unfold srcOf
    rw [List.take_succ_eq_append_getElem (by omega), List.flatMap_append]
    have : l.getD k z0 = l[k] := by simp [show k < l.length by omega]
    rw [this]
    simp [lineOf7]
    omega
theorem src_snoc {l : List Rw} {k : Nat} (hk : k < l.length) : srcOf (l.take (k + 1)) = srcOf (l.take k) ++ List.replicate (2 * (l.getD k z0).dp.toNat) 32 ++ (l.getD k z0).tx ++ [10] := by
  unfold srcOf
  rw [List.take_succ_eq_append_getElem hk, List.flatMap_append]
  have : l.getD k z0 = l[k] := by simp [hk]
  rw [this]
  simp [lineOf7]
end Go.Proofs.YtkhmpmjonkmbeaaDoor.L7
