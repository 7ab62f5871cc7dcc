/- The source of rows of which one is broken: what it is, row by row, and what is read of it. Plain Lean. -/
import Derived.Test.YtkhmpmjonkmbeaaDoorBrk
import Derived.Test.YtkhmpmjonkmbeaaDoorMpl
import Derived.Test.YtkhmpmjonkmbeaaDoorPln
set_option linter.unusedVariables false
set_option linter.unusedSimpArgs false
namespace Go.Proofs.YtkhmpmjonkmbeaaDoor.L7

/-- The source in which row j is broken. -/
def brkS (d : Nat) (t1 t2 : Bs) (j : Nat) (l : List Rw) : Bs := (brkL d t1 t2 j l).flatMap fun p => p ++ [10]
theorem brkL_nil (d : Nat) (t1 t2 : Bs) (j : Nat) : brkL d t1 t2 j [] = [] := by cases j <;> rfl
theorem brkL_snoc (d : Nat) (t1 t2 : Bs) (x : Rw) : ∀ (l : List Rw) (j : Nat), brkL d t1 t2 j (l ++ [x]) =
    brkL d t1 t2 j l ++ (if j = l.length then [List.replicate (2 * x.dp.toNat) 32 ++ t1, List.replicate (2 * x.dp.toNat + d) 32 ++ t2] else [lineOf7 x]) := by
  intro l
  induction l with
  | nil =>
    intro j
    cases j with
    | zero => rfl
    | succ j =>
      rw [if_neg (by simp), List.nil_append, brkL_nil]
      show lineOf7 x :: brkL d t1 t2 j [] = _
      rw [brkL_nil]
      rfl
  | cons y l ih =>
    intro j
    cases j with
    | zero =>
      rw [if_neg (by simp)]
      show _ :: _ :: (l ++ [x]).map lineOf7 = (_ :: _ :: l.map lineOf7) ++ [lineOf7 x]
      rw [List.map_append]
      rfl
    | succ j =>
      show lineOf7 y :: brkL d t1 t2 j (l ++ [x]) = (lineOf7 y :: brkL d t1 t2 j l) ++ _
      rw [ih, List.cons_append]
      congr 2
      simp only [List.length_cons, Nat.add_right_cancel_iff]
theorem brkS_nil (d : Nat) (t1 t2 : Bs) (j : Nat) : brkS d t1 t2 j [] = [] := by unfold brkS; rw [brkL_nil]; rfl
theorem brkS_hit {d : Nat} {t1 t2 : Bs} {l : List Rw} {j : Nat} (h : j < l.length) :
    brkS d t1 t2 j (l.take (j + 1)) = brkS d t1 t2 j (l.take j) ++ (List.replicate (2 * (l.getD j z0).dp.toNat) 32 ++ t1 ++ [10] ++ List.replicate (2 * (l.getD j z0).dp.toNat) 32 ++ List.replicate d 32 ++ t2 ++ [10]) := by
  have e : l.getD j z0 = l[j] := by simp [h]
  unfold brkS
  rw [List.take_succ_eq_append_getElem h, brkL_snoc, if_pos (by simp; omega), e]
  have e2 : ∀ n : Nat, List.replicate (n + d) (32 : UInt8) = List.replicate n 32 ++ List.replicate d 32 := fun n => List.replicate_append_replicate.symm
  rw [e2]
  simp
theorem brkS_miss {d : Nat} {t1 t2 : Bs} {l : List Rw} {i j : Nat} (h : i < l.length) (hj : i ≠ j) :
    brkS d t1 t2 j (l.take (i + 1)) = brkS d t1 t2 j (l.take i) ++ (List.replicate (2 * (l.getD i z0).dp.toNat) 32 ++ (l.getD i z0).tx ++ [10]) := by
  have e : l.getD i z0 = l[i] := by simp [h]
  unfold brkS
  rw [List.take_succ_eq_append_getElem h, brkL_snoc, if_neg (by simp; omega), e]
  simp [lineOf7]
theorem brkS_len {d : Nat} {t1 t2 : Bs} {l : List Rw} {j : Nat} (hd : d ≤ 20) (ht : t1.length + t2.length ≤ 256) (ho : OkTo l l.length) : ∀ i, i ≤ l.length → (brkS d t1 t2 j (l.take i)).length ≤ 500 * i := by
  intro i
  induction i with
  | zero => intro _; rw [List.take_zero, brkS_nil]; simp
  | succ i ih =>
    intro hi
    have h1 := ih (by omega)
    obtain ⟨_, _, h3, h4, _, h6⟩ := ok_bounds (ho i (by omega))
    by_cases hj : i = j
    · subst hj
      rw [brkS_hit (by omega)]
      simp only [List.length_append, List.length_replicate, List.length_cons, List.length_nil]
      omega
    · rw [brkS_miss (by omega) hj]
      simp only [List.length_append, List.length_replicate, List.length_cons, List.length_nil]
      omega
/-- What is read of it. -/
theorem brkS_rows {d : Nat} {t1 t2 : Bs} {l : List Rw} {j : Nat} (h : may l = true) (hx : ∀ x, l[j]? = some x → Broken x.tx t1 t2) (hl : (brkS d t1 t2 j l).length ≤ 65536) :
    rows (brkS d t1 t2 j l) = (brkR j l 1, 0, 0) := by
  have hm := h
  unfold may at hm
  simp only [Bool.and_eq_true, decide_eq_true_eq] at hm
  have e : lnsOf (brkS d t1 t2 j l) = brkL d t1 t2 j l ++ [[]] := by
    unfold brkS
    exact lns_src fun p hp => plain_no (brk_plain hm.1.2 hx p hp)
  rw [rows_core hl, e, broken_core h hx]
theorem brkR_len (l : List Rw) : ∀ (j i : Nat), (brkR j l i).length = l.length := by
  have hr : ∀ (l : List Rw) (i : Nat), (renum l i).length = l.length := by
    intro l
    induction l with
    | nil => exact fun _ => rfl
    | cons x l ih => intro i; unfold renum; rw [List.length_cons, List.length_cons, ih]
  induction l with
  | nil => intro j i; cases j <;> rfl
  | cons x l ih =>
    intro j i
    cases j with
    | zero => show (_ :: renum l (i + 2)).length = _; rw [List.length_cons, hr, List.length_cons]
    | succ j => show (_ :: brkR j l (i + 1)).length = _; rw [List.length_cons, ih, List.length_cons]
/-- A text that is broken at place p. -/
theorem broken_at {t : Bs} {p : Nat} (h0 : p ≠ 0) (h1 : p + 1 < t.length) (h2 : t.getD p 0 = 32) (h3 : t.getD (p + 1) 0 ≠ 32) (h4 : isC (t.getD (p - 1) 0) = true) : Broken t (t.take p) (t.drop (p + 1)) := by
  have e1 : t = t.take p ++ 32 :: t.drop (p + 1) := by
    have := List.take_append_drop p t
    rw [List.drop_eq_getElem_cons (by omega)] at this
    have e : t[p] = 32 := by rw [← h2]; simp [show p < t.length by omega]
    rw [e] at this
    exact this.symm
  refine ⟨e1, ?_, ?_, ?_⟩
  · intro e
    have := congrArg List.length e
    rw [List.length_drop] at this
    simp at this
    omega
  · rw [List.head?_drop]
    have : t[p + 1]? = some (t.getD (p + 1) 0) := by simp [h1]
    rw [this]
    simpa using h3
  · have hne : t.take p ≠ [] := by
      intro e
      have := congrArg List.length e
      rw [List.length_take, List.length_nil] at this
      omega
    rw [conts_last hne]
    have hl : (t.take p).length = p := by rw [List.length_take]; omega
    rw [hl]
    have : (t.take p).getD (p - 1) 0 = t.getD (p - 1) 0 := by
      simp [List.getElem?_take, show p - 1 < p by omega]
    rw [this]
    exact h4
end Go.Proofs.YtkhmpmjonkmbeaaDoor.L7
