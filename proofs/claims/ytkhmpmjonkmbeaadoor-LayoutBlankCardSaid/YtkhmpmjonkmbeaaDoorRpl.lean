/- What the reference's loops over the lines of a text reckon. Plain Lean. -/
import Derived.Test.YtkhmpmjonkmbeaaDoorCpl
set_option linter.unusedVariables false
set_option linter.unusedSimpArgs false
namespace Go.Proofs.YtkhmpmjonkmbeaaDoor.L7
open Go

/-- The next line with content, from i on. -/
def nx (ls : List Bs) (i : Nat) : Nat := i + ((ls.drop i).takeWhile fun l => (cutL l).2.isEmpty).length
theorem nx_at {ls : List Bs} {i : Nat} (h : i < ls.length) (he : (cutL (ls.getD i [])).2.isEmpty = false) : nx ls i = i := by
  unfold nx
  rw [List.drop_eq_getElem_cons h, List.takeWhile_cons_of_neg]
  · rfl
  · have : ls.getD i [] = ls[i] := by simp [h]
    rw [this] at he
    simp [he]
theorem nx_step {ls : List Bs} {i : Nat} (h : i < ls.length) (he : (cutL (ls.getD i [])).2.isEmpty = true) : nx ls i = nx ls (i + 1) := by
  unfold nx
  rw [List.drop_eq_getElem_cons h, List.takeWhile_cons_of_pos]
  · rw [List.length_cons]; omega
  · have : ls.getD i [] = ls[i] := by simp [h]
    rw [this] at he
    simp [he]
theorem nx_end {ls : List Bs} {i : Nat} (h : ls.length ≤ i) : nx ls i = i := by
  unfold nx
  rw [List.drop_eq_nil_of_le h]
  rfl
theorem nx_ge (ls : List Bs) (i : Nat) : i ≤ nx ls i := by unfold nx; omega
theorem nx_le {ls : List Bs} {i : Nat} (h : i ≤ ls.length) : nx ls i ≤ ls.length := by
  unfold nx
  have := (List.takeWhile_prefix (l := ls.drop i) (fun l => (cutL l).2.isEmpty)).length_le
  rw [List.length_drop] at this
  omega
theorem getD_drop {ls : List Bs} {i : Nat} (h : i < ls.length) : ls.drop i = ls.getD i [] :: ls.drop (i + 1) := by
  rw [List.drop_eq_getElem_cons h]
  simp [h]
theorem items_step {ls : List Bs} {i : Nat} (h : i < ls.length) (he : (cutL (ls.getD i [])).2.isEmpty = true) (n : Nat) : itemsOf (ls.drop i) n = itemsOf (ls.drop (i + 1)) (n + 1) := by
  rw [getD_drop h]
  conv => lhs; unfold itemsOf
  rw [if_pos he]
theorem items_here {ls : List Bs} {i : Nat} (h : i < ls.length) (he : (cutL (ls.getD i [])).2.isEmpty = false) (n : Nat) : itemsOf (ls.drop i) n = (n, (cutL (ls.getD i [])).1, (cutL (ls.getD i [])).2) :: itemsOf (ls.drop (i + 1)) (n + 1) := by
  rw [getD_drop h]
  conv => lhs; unfold itemsOf
  rw [if_neg (by rw [he]; decide)]
theorem items_end {ls : List Bs} {i : Nat} (h : ls.length ≤ i) (n : Nat) : itemsOf (ls.drop i) n = [] := by
  rw [List.drop_eq_nil_of_le h]; rfl
theorem nx_all {ls : List Bs} : ∀ (k i : Nat), i + k = ls.length → (nx ls i < ls.length → (cutL (ls.getD (nx ls i) [])).2.isEmpty = false) ∧ itemsOf (ls.drop i) (i + 1) = itemsOf (ls.drop (nx ls i)) (nx ls i + 1) := by
  intro k
  induction k with
  | zero =>
    intro i hi
    rw [nx_end (by omega)]
    exact ⟨fun h => absurd h (by omega), rfl⟩
  | succ k ih =>
    intro i hi
    cases he : (cutL (ls.getD i [])).2.isEmpty with
    | true =>
      rw [nx_step (by omega) he, items_step (by omega) he]
      exact ih (i + 1) (by omega)
    | false =>
      rw [nx_at (by omega) he]
      exact ⟨fun _ => he, rfl⟩
/-- How much the lines up to i weigh. -/
def wgt (ls : List Bs) (i : Nat) : Nat := ((ls.take i).map fun l => l.length + 1).sum
theorem wgt_mono {ls : List Bs} {i j : Nat} (h : i ≤ j) : wgt ls i ≤ wgt ls j := by
  unfold wgt
  have : ls.take i = (ls.take j).take i := by rw [List.take_take, Nat.min_eq_left h]
  rw [this]
  generalize ls.take j = l
  have e := List.take_append_drop i l
  have h2 : (l.map fun l => l.length + 1).sum = (((l.take i).map fun l => l.length + 1).sum) + (((l.drop i).map fun l => l.length + 1).sum) := by
    rw [← List.sum_append, ← List.map_append, e]
  omega
theorem wgt_succ {ls : List Bs} {i : Nat} (h : i < ls.length) : wgt ls (i + 1) = wgt ls i + (ls.getD i []).length + 1 := by
  unfold wgt
  rw [List.take_succ_eq_append_getElem h, List.map_append, List.sum_append]
  have : ls.getD i [] = ls[i] := by simp [h]
  rw [this]
  simp
  omega
theorem wgt_all (s : Bs) (i : Nat) : wgt (lnsOf s) i ≤ s.length + 1 := by
  have h := lns_sum s
  by_cases hi : i ≤ (lnsOf s).length
  · have := wgt_mono (ls := lnsOf s) hi
    unfold wgt at this ⊢
    rw [List.take_length] at this
    omega
  · unfold wgt
    rw [List.take_of_length_le (by omega)]
    omega
theorem lns_le (s : Bs) (i : Nat) : ((lnsOf s).getD i []).length ≤ s.length := by
  by_cases hi : i < (lnsOf s).length
  · have h1 := wgt_succ hi
    have h2 := wgt_all s (i + 1)
    omega
  · simp [List.getElem?_eq_none (show (lnsOf s).length ≤ i by omega)]
/-- Rows in front. -/
def addE (out : List Rw) : Except (Nat × Int) (List Rw) → Except (Nat × Int) (List Rw)
  | .error e => .error e
  | .ok rs => .ok (out ++ rs)
theorem addE_nil (r : Except (Nat × Int) (List Rw)) : addE [] r = r := by cases r <;> rfl
theorem addE_ok (out : List Rw) (x : Rw) (r : Except (Nat × Int) (List Rw)) : addE out (match r with | .error e => .error e | .ok l => .ok (x :: l)) = addE (out ++ [x]) r := by
  cases r with
  | error e => rfl
  | ok l => simp [addE]
theorem rowsOf_add {before : Int} {k n i : Nat} {m t : Bs} {r r' : List Item} {out : List Rw} (h : ¬ (i % 2 = 1 ∨ before + 1 < (i / 2 : Nat))) (hg : glue i n m r = .ok (t, r')) (hl : ¬ (32 < i / 2 ∨ 256 < t.length ∨ k = 2048)) :
    addE out (rowsOf before k ((n, i, m) :: r)) = addE (out ++ [⟨(n : Int), ((i / 2 : Nat) : Int), t⟩]) (rowsOf (i / 2 : Nat) (k + 1) r') := by
  rw [rowsOf_ok h hg hl]
  cases rowsOf (i / 2 : Nat) (k + 1) r' with
  | error e => rfl
  | ok l => simp [addE]
theorem glue_skip {ls : List Bs} {ind a i : Nat} {t : Bs} (h : i ≤ ls.length) : glue ind a t (itemsOf (ls.drop i) (i + 1)) = glue ind a t (itemsOf (ls.drop (nx ls i)) (nx ls i + 1)) := by
  rw [(nx_all (ls.length - i) i (by omega)).2]
/-- Rows have short texts. -/
theorem rowsOf_short : ∀ (N : Nat) (its : List Item) (before : Int) (k : Nat) (l : List Rw), its.length ≤ N → k ≤ 2048 → rowsOf before k its = .ok l → (∀ x ∈ l, x.tx.length ≤ 256) ∧ k + l.length ≤ 2048 := by
  intro N
  induction N with
  | zero =>
    intro its before k l h hk hr
    obtain rfl : its = [] := List.eq_nil_of_length_eq_zero (by omega)
    rw [rowsOf_nil] at hr
    injection hr with hr
    subst hr
    exact ⟨fun _ hx => (by cases hx), hk⟩
  | succ N ih =>
    intro its before k l h hk hr
    cases its with
    | nil =>
      rw [rowsOf_nil] at hr
      injection hr with hr
      subst hr
      exact ⟨fun _ hx => (by cases hx), hk⟩
    | cons x r =>
      obtain ⟨n, i, m⟩ := x
      simp only [List.length_cons] at h
      by_cases h1 : i % 2 = 1 ∨ before + 1 < (i / 2 : Nat)
      · rw [rowsOf_bad h1] at hr; cases hr
      · cases hg : glue i n m r with
        | error e => rw [rowsOf_err h1 hg] at hr; cases hr
        | ok p =>
          obtain ⟨t, r'⟩ := p
          have hlen := glue_len hg
          by_cases h2 : 32 < i / 2 ∨ 256 < t.length ∨ k = 2048
          · rw [rowsOf_long h1 hg h2] at hr; cases hr
          · rw [rowsOf_ok h1 hg h2] at hr
            cases hq : rowsOf (i / 2 : Nat) (k + 1) r' with
            | error e => rw [hq] at hr; cases hr
            | ok l' =>
              rw [hq] at hr
              injection hr with hr
              subst hr
              obtain ⟨g1, g2⟩ := ih r' _ _ l' (by omega) (by omega) hq
              refine ⟨fun x hx => ?_, by simp only [List.length_cons]; omega⟩
              rcases List.mem_cons.1 hx with rfl | hx
              · show t.length ≤ 256; omega
              · exact g1 x hx
theorem rows_short (s : Bs) : (∀ x ∈ (rows s).1, x.tx.length ≤ 256) ∧ (rows s).1.length ≤ 2048 := by
  unfold rows
  split
  · exact ⟨fun _ hx => (by cases hx), by simp⟩
  · split
    · exact ⟨fun _ hx => (by cases hx), by simp⟩
    · split
      · exact ⟨fun _ hx => (by cases hx), by simp⟩
      · rename_i l hl
        have := rowsOf_short _ _ _ _ _ (Nat.le_refl _) (by omega) hl
        exact ⟨this.1, by have := this.2; simpa using this⟩
end Go.Proofs.YtkhmpmjonkmbeaaDoor.L7
