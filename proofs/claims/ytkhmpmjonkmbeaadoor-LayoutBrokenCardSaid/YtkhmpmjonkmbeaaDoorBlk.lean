/- A blank line that is inserted changes nothing but numbers. Plain Lean. -/
import Derived.Test.YtkhmpmjonkmbeaaDoorBak
set_option linter.unusedVariables false
set_option linter.unusedSimpArgs false
namespace Go.Proofs.YtkhmpmjonkmbeaaDoor.L7

/-- A number when a line is inserted behind line k. -/
def up (k n : Nat) : Nat := if k < n then n + 1 else n
def upZ (k : Nat) (n : Int) : Int := if (k : Int) < n then n + 1 else n
theorem up_z (k n : Nat) : ((up k n : Nat) : Int) = upZ k (n : Int) := by
  unfold up upZ
  split <;> split <;> omega
def upI (k : Nat) (x : Item) : Item := (up k x.1, x.2)
def upR (k : Nat) (x : Rw) : Rw := ⟨upZ k x.no, x.dp, x.tx⟩
/-- What Rows answers for these lines. -/
def core (ls : List Bs) : List Rw × Int × Int :=
  match badLine ls with
  | some k => ([], (k : Int) + 1, 5)
  | none => match rowsOf (-1) 0 (itemsOf ls 1) with
    | .error (n, e) => ([], n, e)
    | .ok l => (l, 0, 0)
theorem rows_core {s : Bs} (h : s.length ≤ 65536) : rows s = core (lnsOf s) := by
  unfold rows core
  rw [if_neg (by omega)]
  cases badLine (lnsOf s) with
  | some k => rfl
  | none =>
    dsimp only
    cases rowsOf (-1) 0 (itemsOf (lnsOf s) 1) with
    | error p => rfl
    | ok l => rfl

/-! ### Items -/
theorem items_low {ls : List Bs} (k i : Nat) (h : k < i) : itemsOf ls (i + 1) = (itemsOf ls i).map (upI k) := by
  induction ls generalizing i with
  | nil => rfl
  | cons l r ih =>
    unfold itemsOf
    split
    · exact ih (i + 1) (by omega)
    · rw [List.map_cons, ih (i + 1) (by omega)]
      have : upI k (i, (cutL l).1, (cutL l).2) = (i + 1, (cutL l).1, (cutL l).2) := by unfold upI up; rw [if_pos h]
      rw [this]
theorem items_blank {b : Bs} (hb : (cutL b).2.isEmpty = true) {ls : List Bs} : ∀ (j i : Nat), 1 ≤ i →
    itemsOf (ls.take j ++ b :: ls.drop j) i = (itemsOf ls i).map (upI (j + i - 1)) := by
  induction ls with
  | nil =>
    intro j i _
    rw [List.take_nil, List.drop_nil, List.nil_append]
    unfold itemsOf
    rw [if_pos hb]
    rfl
  | cons l r ih =>
    intro j i hi
    cases j with
    | zero =>
      rw [List.take_zero, List.drop_zero, List.nil_append]
      conv => lhs; unfold itemsOf
      rw [if_pos hb]
      exact items_low _ _ (by omega)
    | succ j =>
      rw [List.take_succ_cons, List.drop_succ_cons, List.cons_append]
      have h := ih j (i + 1) (by omega)
      have e : j + (i + 1) - 1 = j + 1 + i - 1 := by omega
      rw [e] at h
      conv => lhs; unfold itemsOf
      conv => rhs; unfold itemsOf
      split
      · exact h
      · rw [h, List.map_cons]
        have : upI (j + 1 + i - 1) (i, (cutL l).1, (cutL l).2) = (i, (cutL l).1, (cutL l).2) := by unfold upI up; rw [if_neg (by show ¬ _ < i; omega)]
        rw [this]

/-! ### Logical lines and rows -/
theorem glue_up (f : Nat → Nat) (ind : Nat) : ∀ (r : List Item) (a : Nat) (t : Bs), glue ind (f a) t (r.map fun x => (f x.1, x.2)) =
    match glue ind a t r with
    | .error (n, e) => .error (f n, e)
    | .ok (u, r') => .ok (u, r'.map fun x => (f x.1, x.2)) := by
  intro r
  induction r with
  | nil =>
    intro a t
    rw [List.map_nil]
    unfold glue
    split <;> rfl
  | cons x r ih =>
    intro a t
    obtain ⟨n, i, m⟩ := x
    rw [List.map_cons]
    unfold glue
    split
    · split
      · rfl
      · exact ih n _
    · rfl
theorem rows_up (f : Nat → Nat) : ∀ (N : Nat) (its : List Item) (before : Int) (k : Nat), its.length ≤ N →
    rowsOf before k (its.map fun x => (f x.1, x.2)) =
    match rowsOf before k its with
    | .error (n, e) => .error (f n, e)
    | .ok l => .ok (l.map fun x => ⟨f x.no.toNat, x.dp, x.tx⟩) := by
  intro N
  induction N with
  | zero =>
    intro its before k h
    obtain rfl : its = [] := List.eq_nil_of_length_eq_zero (by omega)
    rw [List.map_nil]
    unfold rowsOf
    rfl
  | succ N ih =>
    intro its before k h
    cases its with
    | nil =>
      rw [List.map_nil]
      unfold rowsOf
      rfl
    | cons x r =>
      obtain ⟨n, i, m⟩ := x
      rw [List.map_cons]
      have hg := glue_up f i r n m
      conv => lhs; unfold rowsOf
      conv => rhs; unfold rowsOf
      by_cases h1 : i % 2 = 1 ∨ before + 1 < (i / 2 : Nat)
      · rw [if_pos h1, if_pos h1]
      · rw [if_neg h1, if_neg h1]
        cases hq : glue i n m r with
        | error p =>
          obtain ⟨n', e'⟩ := p
          rw [hq] at hg
          dsimp only at hg
          split
          · rename_i p hp
            rw [hg] at hp
            injection hp with hp
            rw [← hp]
          · rename_i hp
            rw [hg] at hp
            cases hp
        | ok p =>
          obtain ⟨u, r'⟩ := p
          rw [hq] at hg
          dsimp only at hg
          have hlen := glue_len hq
          simp only [List.length_cons] at h
          split
          · rename_i p hp
            rw [hg] at hp
            cases hp
          · rename_i u2 r2 hp
            rw [hg] at hp
            injection hp with hp
            injection hp with hp1 hp2
            subst hp1 hp2
            by_cases h2 : 32 < i / 2 ∨ 256 < u.length ∨ k = 2048
            · rw [if_pos h2, if_pos h2]
            · rw [if_neg h2, if_neg h2, ih r' (i / 2 : Nat) (k + 1) (by omega)]
              cases rowsOf (i / 2 : Nat) (k + 1) r' with
              | error p => obtain ⟨n', e'⟩ := p; rfl
              | ok l => rfl
/-- All numbers of rows are natural. -/
theorem rows_nat : ∀ (N : Nat) (its : List Item) (before : Int) (k : Nat) (l : List Rw), its.length ≤ N → rowsOf before k its = .ok l → ∀ x ∈ l, 0 ≤ x.no := by
  intro N
  induction N with
  | zero =>
    intro its before k l h hr
    obtain rfl : its = [] := List.eq_nil_of_length_eq_zero (by omega)
    unfold rowsOf at hr
    injection hr with hr
    subst hr
    exact fun _ hx => absurd hx (by simp)
  | succ N ih =>
    intro its before k l h hr
    cases its with
    | nil =>
      unfold rowsOf at hr
      injection hr with hr
      subst hr
      exact fun _ hx => absurd hx (by simp)
    | cons x r =>
      obtain ⟨n, i, m⟩ := x
      unfold rowsOf at hr
      split at hr
      · cases hr
      · split at hr
        · cases hr
        · rename_i u r' hg
          have hlen := glue_len hg
          simp only [List.length_cons] at h
          split at hr
          · cases hr
          · split at hr
            · cases hr
            · rename_i l' hl
              injection hr with hr
              subst hr
              intro x hx
              rcases List.mem_cons.1 hx with rfl | hx
              · show (0 : Int) ≤ (n : Int); omega
              · exact ih r' _ _ l' (by omega) hl x hx

/-! ### The answer -/
theorem bad_blank {b : Bs} (hb : b.all plainB = true) {ls : List Bs} : ∀ (j : Nat), badLine (ls.take j ++ b :: ls.drop j) = (badLine ls).map fun q => up j (q + 1) - 1 := by
  unfold badLine
  induction ls with
  | nil =>
    intro j
    rw [List.take_nil, List.drop_nil, List.nil_append, List.findIdx?_cons, hb]
    rfl
  | cons l r ih =>
    intro j
    cases j with
    | zero =>
      rw [List.take_zero, List.drop_zero, List.nil_append, List.findIdx?_cons, hb]
      simp only [Bool.not_true, if_false, Bool.false_eq_true]
      congr 1
    | succ j =>
      rw [List.take_succ_cons, List.drop_succ_cons, List.cons_append, List.findIdx?_cons, List.findIdx?_cons]
      split
      · rw [Option.map_some]
        congr 1
      · rw [ih j, Option.map_map, Option.map_map]
        congr 1
        funext q
        show up j (q + 1) - 1 + 1 = up (j + 1) (q + 1 + 1) - 1
        unfold up
        split <;> split <;> omega
theorem blank_core {b : Bs} (hb : b.all plainB = true) (he : (cutL b).2.isEmpty = true) (ls : List Bs) (j : Nat) :
    core (ls.take j ++ b :: ls.drop j) = ((core ls).1.map (upR j), upZ j (core ls).2.1, (core ls).2.2) := by
  unfold core
  rw [bad_blank hb j, items_blank he j 1 (Nat.le_refl 1)]
  cases badLine ls with
  | some q =>
    show (([] : List Rw), (((up j (q + 1) - 1 : Nat)) : Int) + 1, (5 : Int)) = ([], upZ j ((q : Int) + 1), 5)
    have h1 := up_z j (q + 1)
    have h2 : 1 ≤ up j (q + 1) := by unfold up; split <;> omega
    have : (((up j (q + 1) - 1 : Nat)) : Int) + 1 = upZ j ((q : Int) + 1) := by
      rw [show ((q : Int) + 1) = ((q + 1 : Nat) : Int) by omega, ← h1]; omega
    rw [this]
  | none =>
    dsimp only [Option.map_none]
    have h := rows_up (up j) _ (itemsOf ls 1) (-1) 0 (Nat.le_refl _)
    have e : (fun x : Item => (up j x.1, x.2)) = upI (j + 1 - 1) := by funext x; rw [Nat.add_sub_cancel]; rfl
    rw [e] at h
    rw [h]
    cases hr : rowsOf (-1) 0 (itemsOf ls 1) with
    | error p =>
      obtain ⟨n, e⟩ := p
      show (([] : List Rw), ((up j n : Nat) : Int), e) = ([], upZ j (n : Int), e)
      rw [up_z]
    | ok l =>
      have hn := rows_nat _ _ _ _ _ (Nat.le_refl _) hr
      show (l.map _, (0 : Int), (0 : Int)) = (l.map (upR j), upZ j 0, 0)
      have h0 : upZ j 0 = 0 := by unfold upZ; rw [if_neg (by omega)]
      rw [h0]
      congr 1
      refine List.map_congr_left fun x hx => ?_
      unfold upR
      rw [up_z, Int.toNat_of_nonneg (hn x hx)]
/-! ### Blank lines -/
theorem trimR_sp (n : Nat) : trimR (List.replicate n 32) = [] := by
  unfold trimR
  rw [List.reverse_replicate]
  have : (List.replicate n (32 : UInt8)).dropWhile (· == 32) = [] := by
    induction n with
    | zero => rfl
    | succ n ih => rw [List.replicate_succ, List.dropWhile_cons_of_pos (p := fun x : UInt8 => x == 32) (by decide)]; exact ih
  rw [this]; rfl
theorem bare_sp (n : Nat) : bare (List.replicate n 32) = List.replicate n 32 := by
  refine bare_self ?_
  have := noDD_sp n (t := []) rfl
  rwa [List.append_nil] at this
theorem bare_com (n : Nat) (c : Bs) : bare (List.replicate n 32 ++ 45 :: 45 :: c) = List.replicate n 32 := by
  induction n with
  | zero => rfl
  | succ n ih =>
    rw [List.replicate_succ, List.cons_append]
    cases n with
    | zero =>
      show bare (32 :: 45 :: 45 :: c) = [32]
      unfold bare
      rw [if_neg (by decide)]
      rfl
    | succ n =>
      rw [List.replicate_succ, List.cons_append] at ih ⊢
      unfold bare
      rw [if_neg (by decide), ih]
theorem blank_sp (n : Nat) : (cutL (List.replicate n 32)).2.isEmpty = true := by
  unfold cutL
  rw [bare_sp, trimR_sp]
  rfl
theorem blank_com (n : Nat) (c : Bs) : (cutL (List.replicate n 32 ++ 45 :: 45 :: c)).2.isEmpty = true := by
  unfold cutL
  rw [bare_com, trimR_sp]
  rfl
end Go.Proofs.YtkhmpmjonkmbeaaDoor.L7
