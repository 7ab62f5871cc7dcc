/- Spaces between tokens, and lines joined by a space. Plain Lean. -/
import Derived.Test.YtblckajejohlbaaDoorLxa
set_option linter.unusedVariables false
set_option linter.unusedSimpArgs false
set_option linter.unusedVariables false
set_option linter.unusedSimpArgs false
namespace Go.Proofs.YtblckajejohlbaaDoor.L8
open Go

/-- A token in front: its own bytes and the rest. -/
theorem toks_split {c : UInt8} {r : Bs} (hc : c ≠ 32) {k : Nat} {tx : Bs} {v : Int} {n : Nat} (h : token (c :: r) = some (k, tx, v, n)) :
    ∃ u, (c :: r) = (c :: u) ++ (c :: r).drop n ∧ (c :: u).length = n ∧ ∀ v', Nxt ((c :: r).drop n) v' → ∀ p, toks ((c :: u) ++ v') p = match toks v' (p + n) with | .error e => .error e | .ok l => .ok (⟨k, p, tx, v⟩ :: l) := by
  have hl := token_len h
  obtain ⟨n, rfl⟩ : ∃ m, n = m + 1 := ⟨n - 1, by omega⟩
  have e1 : (c :: r).take (n + 1) = c :: r.take n := List.take_succ_cons
  have e2 : (c :: r) = (c :: r.take n) ++ (c :: r).drop (n + 1) := by rw [← e1]; exact (List.take_append_drop (n + 1) (c :: r)).symm
  have e3 : (c :: r.take n).length = n + 1 := by rw [← e1, List.length_take]; omega
  refine ⟨r.take n, e2, e3, fun v' hv p => ?_⟩
  have h1 : token ((c :: r.take n) ++ (c :: r).drop (n + 1)) = some (k, tx, v, (c :: r.take n).length) := by rw [← e2, e3]; exact h
  have h2 := token_keep h1 hv
  rw [List.cons_append] at h2 ⊢
  rw [e3] at h2
  rw [toks_tok hc h2]
  have : (c :: (r.take n ++ v')).drop (n + 1) = v' := by
    rw [← List.cons_append, ← e3, List.drop_left]
  rw [this]
  cases toks v' (p + (n + 1)) <;> rfl
/-- The tokens of a text, a space and another text. -/
theorem toks_join (b : Bs) : ∀ (N : Nat) (a : Bs) (p : Nat) (l : List Tk), a.length ≤ N → toks a p = .ok l →
    toks (a ++ 32 :: b) p = match toks b (p + a.length + 1) with | .error e => .error e | .ok m => .ok (l ++ m) := by
  intro N
  induction N with
  | zero =>
    intro a p l h hl
    obtain rfl : a = [] := List.eq_nil_of_length_eq_zero (by omega)
    rw [toks_nil] at hl
    injection hl with hl
    subst hl
    rw [List.nil_append, toks_sp]
    show toks b (p + 1) = _
    rw [show p + ([] : Bs).length + 1 = p + 1 by simp]
    cases toks b (p + 1) <;> rfl
  | succ N ih =>
    intro a p l h hl
    rcases toks_ways a with rfl | ⟨r, rfl⟩ | ⟨c, r, rfl, hc, ht⟩ | ⟨c, r, k, tx, v, n, rfl, hc, ht⟩
    · rw [toks_nil] at hl
      injection hl with hl
      subst hl
      rw [List.nil_append, toks_sp]
      rw [show p + ([] : Bs).length + 1 = p + 1 by simp]
      cases toks b (p + 1) <;> rfl
    · rw [toks_sp] at hl
      rw [List.cons_append, toks_sp, ih r (p + 1) l (by simpa using h) hl, List.length_cons, show p + 1 + r.length + 1 = p + (r.length + 1) + 1 by omega]
    · rw [toks_bad hc ht] at hl; cases hl
    · have hlen := token_len ht
      rw [toks_tok hc ht] at hl
      obtain ⟨u, e1, e2, e3⟩ := toks_split hc ht
      cases hd : toks ((c :: r).drop n) (p + n) with
      | error e => rw [hd] at hl; cases hl
      | ok l' =>
        rw [hd] at hl
        injection hl with hl
        subst hl
        have hi := ih ((c :: r).drop n) (p + n) l' (by rw [List.length_drop]; omega) hd
        have hN : Nxt ((c :: r).drop n) ((c :: r).drop n ++ 32 :: b) := by
          cases hq : (c :: r).drop n with
          | nil => exact .inr (.inl rfl)
          | cons d q => exact .inr (.inr ⟨by simp, rfl⟩)
        have e4 : (c :: r) ++ 32 :: b = (c :: u) ++ ((c :: r).drop n ++ 32 :: b) := by
          rw [← List.append_assoc, ← e1]
        rw [e4, e3 _ hN p, hi, List.length_drop, show p + n + ((c :: r).length - n) + 1 = p + (c :: r).length + 1 by omega]
        cases toks b (p + (c :: r).length + 1) <;> rfl
/-- Where token i begins (from the text's own beginning), or where the text ends. -/
def placeOf (s : Bs) (p : Nat) (l : List Tk) (i : Nat) : Nat := if i < l.length then ((l.getD i ⟨0, 0, [], 0⟩).a - (p : Int)).toNat else s.length
theorem toks_ge : ∀ (N : Nat) (s : Bs) (p : Nat) (l : List Tk), s.length ≤ N → toks s p = .ok l → ∀ t ∈ l, (p : Int) ≤ t.a ∧ t.a < (p : Int) + s.length := by
  intro N
  induction N with
  | zero =>
    intro s p l h hl
    obtain rfl : s = [] := List.eq_nil_of_length_eq_zero (by omega)
    rw [toks_nil] at hl
    injection hl with hl
    subst hl
    exact fun t ht => (by cases ht)
  | succ N ih =>
    intro s p l h hl t ht
    rcases toks_ways s with rfl | ⟨r, rfl⟩ | ⟨c, r, rfl, hc, hb⟩ | ⟨c, r, k, tx, v, n, rfl, hc, hk⟩
    · rw [toks_nil] at hl
      injection hl with hl
      subst hl
      cases ht
    · rw [toks_sp] at hl
      have := ih r (p + 1) l (by simpa using h) hl t ht
      simp only [List.length_cons]
      omega
    · rw [toks_bad hc hb] at hl; cases hl
    · have hlen := token_len hk
      rw [toks_tok hc hk] at hl
      cases hd : toks ((c :: r).drop n) (p + n) with
      | error e => rw [hd] at hl; cases hl
      | ok l' =>
        rw [hd] at hl
        injection hl with hl
        subst hl
        rcases List.mem_cons.1 ht with rfl | ht
        · show (p : Int) ≤ (p : Int) ∧ (p : Int) < _
          omega
        · have := ih _ (p + n) l' (by rw [List.length_drop]; omega) hd t ht
          rw [List.length_drop] at this
          omega
/-- Spaces in front of token i, or at the end. -/
theorem toks_wide (n : Nat) : ∀ (N : Nat) (s : Bs) (p : Nat) (l : List Tk) (i : Nat), s.length ≤ N → toks s p = .ok l → i ≤ l.length →
    placeOf s p l i ≤ s.length ∧ toks (s.take (placeOf s p l i) ++ List.replicate n 32 ++ s.drop (placeOf s p l i)) p = .ok (l.take i ++ (l.drop i).map (shift n)) := by
  intro N
  induction N with
  | zero =>
    intro s p l i h hl hi
    obtain rfl : s = [] := List.eq_nil_of_length_eq_zero (by omega)
    rw [toks_nil] at hl
    injection hl with hl
    subst hl
    have : placeOf [] p [] i = 0 := by unfold placeOf; rw [if_neg (by simp)]; rfl
    rw [this]
    refine ⟨Nat.le_refl _, ?_⟩
    have h2 := toks_sps n [] p
    rw [List.append_nil, toks_nil] at h2
    simpa using h2
  | succ N ih =>
    intro s p l i h hl hi
    rcases toks_ways s with rfl | ⟨r, rfl⟩ | ⟨c, r, rfl, hc, ht⟩ | ⟨c, r, k, tx, v, m, rfl, hc, ht⟩
    · rw [toks_nil] at hl
      injection hl with hl
      subst hl
      have : placeOf [] p [] i = 0 := by unfold placeOf; rw [if_neg (by simp)]; rfl
      rw [this]
      refine ⟨Nat.le_refl _, ?_⟩
      have h2 := toks_sps n [] p
      rw [List.append_nil, toks_nil] at h2
      simpa using h2
    · rw [toks_sp] at hl
      obtain ⟨g1, g2⟩ := ih r (p + 1) l i (by simpa using h) hl hi
      have e : placeOf (32 :: r) p l i = placeOf r (p + 1) l i + 1 := by
        unfold placeOf
        split
        · rename_i hil
          have := toks_ge _ r (p + 1) l (Nat.le_refl _) hl (l.getD i ⟨0, 0, [], 0⟩) (by
            have e : l.getD i ⟨0, 0, [], 0⟩ = l[i] := by simp [hil]
            rw [e]; exact List.getElem_mem hil)
          omega
        · simp
      rw [e]
      refine ⟨by simp only [List.length_cons]; omega, ?_⟩
      rw [List.take_succ_cons, List.drop_succ_cons, List.cons_append, List.cons_append, toks_sp]
      exact g2
    · rw [toks_bad hc ht] at hl; cases hl
    · have hlen := token_len ht
      have hl0 := hl
      rw [toks_tok hc ht] at hl
      obtain ⟨u, e1, e2, e3⟩ := toks_split hc ht
      cases hd : toks ((c :: r).drop m) (p + m) with
      | error e => rw [hd] at hl; cases hl
      | ok l' =>
        rw [hd] at hl
        injection hl with hl
        subst hl
        cases i with
        | zero =>
          have e : placeOf (c :: r) p (⟨k, p, tx, v⟩ :: l') 0 = 0 := by unfold placeOf; rw [if_pos (by simp)]; simp
          rw [e]
          refine ⟨Nat.zero_le _, ?_⟩
          rw [List.take_zero, List.drop_zero, List.nil_append, toks_sps, toks_shift n _ _ p (Nat.le_refl _), hl0, List.take_zero, List.nil_append, List.drop_zero]
        | succ i =>
          obtain ⟨g1, g2⟩ := ih ((c :: r).drop m) (p + m) l' i (by rw [List.length_drop]; omega) hd (by simpa using hi)
          have e : placeOf (c :: r) p (⟨k, p, tx, v⟩ :: l') (i + 1) = m + placeOf ((c :: r).drop m) (p + m) l' i := by
            unfold placeOf
            simp only [List.length_cons, List.getD_cons_succ, Nat.add_lt_add_iff_right]
            split
            · rename_i hil
              have := toks_ge _ _ (p + m) l' (Nat.le_refl _) hd (l'.getD i ⟨0, 0, [], 0⟩) (by
                have e : l'.getD i ⟨0, 0, [], 0⟩ = l'[i] := by simp [hil]
                rw [e]; exact List.getElem_mem hil)
              omega
            · rw [List.length_drop, List.length_cons]
              simp only [List.length_cons] at hlen
              omega
          rw [e]
          generalize placeOf ((c :: r).drop m) (p + m) l' i = q at *
          rw [List.length_drop] at g1
          refine ⟨by omega, ?_⟩
          have t1 : (c :: r).take (m + q) = (c :: u) ++ ((c :: r).drop m).take q := by
            conv => lhs; rw [e1]
            rw [← e2, List.take_append, Nat.add_sub_cancel_left]
            rw [List.take_of_length_le (by omega)]
          have t2 : (c :: r).drop (m + q) = ((c :: r).drop m).drop q := by rw [List.drop_drop]
          rw [t1, t2, List.append_assoc, List.append_assoc, ← List.append_assoc (((c :: r).drop m).take q)]
          generalize (c :: r).drop m = z at *
          have hN : Nxt z (z.take q ++ List.replicate n 32 ++ z.drop q) := by
            cases q with
            | zero =>
              rw [List.take_zero, List.nil_append, List.drop_zero]
              cases n with
              | zero =>
                cases z with
                | nil => exact .inl rfl
                | cons d z => exact .inr (.inr ⟨by simp, rfl⟩)
              | succ n => exact .inr (.inl rfl)
            | succ q =>
              cases z with
              | nil =>
                rw [List.take_nil, List.drop_nil, List.nil_append, List.append_nil]
                cases n with
                | zero => exact .inl rfl
                | succ n => exact .inr (.inl rfl)
              | cons d z =>
                rw [List.take_succ_cons, List.cons_append, List.cons_append]
                exact .inr (.inr ⟨by simp, rfl⟩)
          rw [e3 _ hN p, g2]
          rfl
end Go.Proofs.YtblckajejohlbaaDoor.L8
