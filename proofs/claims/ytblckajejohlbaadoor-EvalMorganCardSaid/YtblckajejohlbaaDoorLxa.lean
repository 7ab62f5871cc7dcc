/- Tokens: a token depends on its own bytes and on the class of the next one; shifts, spaces, joins. Plain Lean. -/
import Derived.Test.YtblckajejohlbaaDoorLex
set_option linter.unusedVariables false
set_option linter.unusedSimpArgs false
set_option linter.unusedVariables false
set_option linter.unusedSimpArgs false
namespace Go.Proofs.YtblckajejohlbaaDoor.L8
open Go

/-! ### Tokens one by one -/
theorem toks_nil (p : Nat) : toks [] p = .ok [] := by unfold toks; rfl
theorem toks_sp (r : Bs) (p : Nat) : toks (32 :: r) p = toks r (p + 1) := by
  conv => lhs; unfold toks
  rw [if_pos rfl]
theorem toks_bad {c : UInt8} {r : Bs} (hc : c ≠ 32) (h : token (c :: r) = none) (p : Nat) : toks (c :: r) p = .error p := by
  conv => lhs; unfold toks
  rw [if_neg hc]
  split
  · rfl
  · rename_i h2; rw [h] at h2; cases h2
theorem toks_tok {c : UInt8} {r : Bs} (hc : c ≠ 32) {k : Nat} {tx : Bs} {v : Int} {n : Nat} (h : token (c :: r) = some (k, tx, v, n)) (p : Nat) :
    toks (c :: r) p = match toks ((c :: r).drop n) (p + n) with | .error e => .error e | .ok l => .ok (⟨k, p, tx, v⟩ :: l) := by
  conv => lhs; unfold toks
  rw [if_neg hc]
  split
  · rename_i h2; rw [h] at h2; cases h2
  · rename_i k' tx' v' n' h2
    rw [h] at h2
    obtain ⟨rfl, rfl, rfl, rfl⟩ := some4 h2
    rfl
/-- What a text is: nothing, a space, an error, a token. -/
theorem toks_ways (s : Bs) : s = [] ∨ (∃ r, s = 32 :: r) ∨ (∃ c r, s = c :: r ∧ c ≠ 32 ∧ token s = none) ∨ ∃ c r k tx v n, s = c :: r ∧ c ≠ 32 ∧ token s = some (k, tx, v, n) := by
  cases s with
  | nil => exact .inl rfl
  | cons c r =>
    by_cases hc : c = 32
    · exact .inr (.inl ⟨r, by rw [hc]⟩)
    · cases h : token (c :: r) with
      | none => exact .inr (.inr (.inl ⟨c, r, rfl, hc, rfl⟩))
      | some q => obtain ⟨k, tx, v, n⟩ := q; exact .inr (.inr (.inr ⟨c, r, k, tx, v, n, rfl, hc, rfl⟩))
def shift (d : Nat) (t : Tk) : Tk := ⟨t.k, t.a + d, t.tx, t.n⟩
theorem toks_shift (d : Nat) : ∀ (N : Nat) (s : Bs) (p : Nat), s.length ≤ N → toks s (p + d) = match toks s p with | .error e => .error (e + d) | .ok l => .ok (l.map (shift d)) := by
  intro N
  induction N with
  | zero =>
    intro s p h
    obtain rfl : s = [] := List.eq_nil_of_length_eq_zero (by omega)
    rw [toks_nil, toks_nil]; rfl
  | succ N ih =>
    intro s p h
    rcases toks_ways s with rfl | ⟨r, rfl⟩ | ⟨c, r, rfl, hc, ht⟩ | ⟨c, r, k, tx, v, n, rfl, hc, ht⟩
    · rw [toks_nil, toks_nil]; rfl
    · rw [toks_sp, toks_sp, show p + d + 1 = p + 1 + d by omega]
      exact ih r (p + 1) (by simpa using h)
    · rw [toks_bad hc ht, toks_bad hc ht]
    · have hl := token_len ht
      have hi := ih ((c :: r).drop n) (p + n) (by rw [List.length_drop]; omega)
      rw [toks_tok hc ht, toks_tok hc ht, show p + d + n = p + n + d by omega, hi]
      cases toks ((c :: r).drop n) (p + n) with
      | error e => rfl
      | ok l =>
        show Except.ok (_ :: _) = Except.ok (_ :: _)
        have : (⟨k, ((p + d : Nat) : Int), tx, v⟩ : Tk) = shift d ⟨k, (p : Int), tx, v⟩ := by unfold shift; simp
        rw [this]
theorem toks_at (s : Bs) (p : Nat) : toks s p = match toks s 0 with | .error e => .error (e + p) | .ok l => .ok (l.map (shift p)) := by
  have := toks_shift p _ s 0 (Nat.le_refl _)
  rwa [Nat.zero_add] at this
theorem toks_sps (n : Nat) (s : Bs) (p : Nat) : toks (List.replicate n 32 ++ s) p = toks s (p + n) := by
  induction n generalizing p with
  | zero => rfl
  | succ n ih => rw [List.replicate_succ, List.cons_append, toks_sp, ih, show p + 1 + n = p + (n + 1) by omega]
/-! ### What follows a token -/
theorem wrun_of {a b : Bs} (ha : a.all wordB = true) (hb : ∀ c, b.head? = some c → wordB c = false) : wrun (a ++ b) = a.length := by
  unfold wrun
  induction a with
  | nil =>
    cases b with
    | nil => rfl
    | cons c b => rw [List.nil_append, List.takeWhile_cons_of_neg (by rw [hb c rfl]; decide)]
  | cons c a ih =>
    rw [List.all_cons, Bool.and_eq_true] at ha
    rw [List.cons_append, List.takeWhile_cons_of_pos ha.1, List.length_cons, List.length_cons, ih ha.2]
theorem wrun_full {a b : Bs} (h : wrun (a ++ b) = a.length) : a.all wordB = true ∧ ∀ c, b.head? = some c → wordB c = false := by
  unfold wrun at h
  induction a with
  | nil =>
    refine ⟨rfl, fun c hc => ?_⟩
    cases b with
    | nil => cases hc
    | cons d b =>
      injection hc with hc
      subst hc
      cases hd : wordB d with
      | false => rfl
      | true => rw [List.nil_append, List.takeWhile_cons_of_pos hd] at h; simp at h
  | cons c a ih =>
    rw [List.cons_append] at h
    by_cases hc : wordB c = true
    · rw [List.takeWhile_cons_of_pos hc, List.length_cons, List.length_cons] at h
      obtain ⟨h1, h2⟩ := ih (by omega)
      exact ⟨by rw [List.all_cons, hc, h1]; rfl, h2⟩
    · rw [List.takeWhile_cons_of_neg hc] at h
      simp at h
theorem sym_no32 (c : UInt8) : isSym [c, 32] = false := by
  have h : ∀ s ∈ syms, s.getD 1 0 ≠ 32 := by decide
  cases hs : isSym [c, 32] with
  | false => rfl
  | true =>
    unfold isSym at hs
    exact absurd rfl (h [c, 32] (by simpa using hs))
theorem take_left {u v : Bs} : (u ++ v).take u.length = u := by simp
theorem quote_pre {u v : Bs} {m : Nat} (h : m ≤ u.length) (h0 : 0 < m) : quote (u ++ v) m = quote u m := by
  unfold quote
  have e1 : (u ++ v).take (m - 1) = u.take (m - 1) := by rw [List.take_append_of_le_length (by omega)]
  have e2 : (u ++ v).getD (m - 1) 0 = u.getD (m - 1) 0 := by
    simp [List.getElem?_append_left (show m - 1 < u.length by omega)]
  rw [e1, e2, if_pos h, if_pos (by rw [List.length_append]; omega)]
theorem quoted_iff {s : Bs} {v n : Nat} : quoted s = some (v, n) ↔ (3 ≤ n ∧ n ≤ 6 ∧ quote s n = some (v, n) ∧ ∀ m, 3 ≤ m → m < n → quote s m = none) := by
  have hq : ∀ m v' n', quote s m = some (v', n') → n' = m := by
    intro m v' n' h
    unfold quote at h
    split at h
    · split at h
      · split at h
        · injection h with h; injection h with _ h; exact h.symm
        · cases h
      · cases h
    · cases h
  have e : quoted s = match quote s 3 with | some x => some x | none => match quote s 4 with | some x => some x | none => match quote s 5 with | some x => some x | none => quote s 6 := by
    unfold quoted
    simp only [List.findSome?_cons, List.findSome?_nil]
    cases quote s 3 <;> cases quote s 4 <;> cases quote s 5 <;> cases quote s 6 <;> rfl
  rw [e]
  constructor
  · intro h
    split at h
    · rename_i x h3
      rw [h] at h3
      obtain rfl := hq 3 _ _ h3
      exact ⟨by omega, by omega, h3, fun m h1 h2 => by omega⟩
    · rename_i h3
      split at h
      · rename_i x h4
        rw [h] at h4
        obtain rfl := hq 4 _ _ h4
        exact ⟨by omega, by omega, h4, fun m h1 h2 => by rw [show m = 3 by omega]; exact h3⟩
      · rename_i h4
        split at h
        · rename_i x h5
          rw [h] at h5
          obtain rfl := hq 5 _ _ h5
          refine ⟨by omega, by omega, h5, fun m h1 h2 => ?_⟩
          rcases (show m = 3 ∨ m = 4 by omega) with rfl | rfl
          · exact h3
          · exact h4
        · rename_i h5
          obtain rfl := hq 6 _ _ h
          refine ⟨by omega, by omega, h, fun m h1 h2 => ?_⟩
          rcases (show m = 3 ∨ m = 4 ∨ m = 5 by omega) with rfl | rfl | rfl
          · exact h3
          · exact h4
          · exact h5
  · rintro ⟨h1, h2, h3, h4⟩
    rcases (show n = 3 ∨ n = 4 ∨ n = 5 ∨ n = 6 by omega) with rfl | rfl | rfl | rfl
    · rw [h3]
    · rw [h4 3 (by omega) (by omega), h3]
    · rw [h4 3 (by omega) (by omega), h4 4 (by omega) (by omega), h3]
    · rw [h4 3 (by omega) (by omega), h4 4 (by omega) (by omega), h4 5 (by omega) (by omega), h3]
theorem quoted_pre {u v : Bs} {x : Nat} (h : quoted u = some (x, u.length)) : quoted (u ++ v) = some (x, u.length) := by
  rw [quoted_iff] at h ⊢
  obtain ⟨h1, h2, h3, h4⟩ := h
  exact ⟨h1, h2, by rw [quote_pre (Nat.le_refl _) (by omega)]; exact h3, fun m g1 g2 => by rw [quote_pre (by omega) (by omega)]; exact h4 m g1 g2⟩
theorem quoted_cut {u v : Bs} {x : Nat} (h : quoted (u ++ v) = some (x, u.length)) : quoted u = some (x, u.length) := by
  rw [quoted_iff] at h ⊢
  obtain ⟨h1, h2, h3, h4⟩ := h
  exact ⟨h1, h2, by rw [← quote_pre (v := v) (Nat.le_refl _) (by omega)]; exact h3, fun m g1 g2 => by rw [← quote_pre (v := v) (by omega) (by omega)]; exact h4 m g1 g2⟩
/-- What may stand behind a token in another's place: nothing, a space, the same byte. -/
def Nxt (v v' : Bs) : Prop := v' = [] ∨ v'.head? = some 32 ∨ (v' ≠ [] ∧ v'.head? = v.head?)
theorem Nxt.word {v v' : Bs} (h : Nxt v v') (hv : ∀ c, v.head? = some c → wordB c = false) : ∀ c, v'.head? = some c → wordB c = false := by
  intro c hc
  rcases h with rfl | h | ⟨_, h⟩
  · cases hc
  · rw [h] at hc; injection hc with hc; subst hc; decide
  · exact hv c (by rw [← h]; exact hc)
theorem run_keep {c : UInt8} {u v v' : Bs} (h : 1 + wrun (u ++ v) = (c :: u).length) (hn : Nxt v v') : 1 + wrun (u ++ v') = (c :: u).length ∧ (c :: (u ++ v')).take (1 + wrun (u ++ v')) = c :: u ∧ (c :: (u ++ v)).take (1 + wrun (u ++ v)) = c :: u := by
  have h1 : wrun (u ++ v) = u.length := by simp only [List.length_cons] at h; omega
  obtain ⟨h2, h3⟩ := wrun_full h1
  have h4 := wrun_of h2 (hn.word h3)
  refine ⟨by rw [h4, List.length_cons]; omega, ?_, ?_⟩
  · rw [h4, Nat.add_comm, List.take_succ_cons, take_left]
  · rw [h1, Nat.add_comm, List.take_succ_cons, take_left]
theorem token_keep {u v v' : Bs} {k : Nat} {tx : Bs} {x : Int} (h : token (u ++ v) = some (k, tx, x, u.length)) (hn : Nxt v v') : token (u ++ v') = some (k, tx, x, u.length) := by
  cases u with
  | nil => have := (token_len h).1; simp at this
  | cons c u =>
    rw [List.cons_append] at h ⊢
    rcases token_cases c with h1 | ⟨h1, h2⟩ | rfl | rfl | ⟨h1, h2, h3, h4⟩
    · have hw : 1 + wrun (u ++ v) = (c :: u).length := by
        rw [token_word h1] at h
        split at h
        · exact (some4 h).2.2.2
        · split at h
          · exact (some4 h).2.2.2
          · cases h
      obtain ⟨e1, e2, e3⟩ := run_keep hw hn
      rw [token_word h1, e3, hw] at h
      rw [token_word h1, e2, e1]
      exact h
    · have hw : 1 + wrun (u ++ v) = (c :: u).length := by
        rw [token_num h1 h2] at h
        split at h
        · exact (some4 h).2.2.2
        · cases h
      obtain ⟨e1, e2, e3⟩ := run_keep hw hn
      rw [token_num h1 h2, e3, hw] at h
      rw [token_num h1 h2, e2, e1]
      exact h
    · have hw : 1 + wrun (u ++ v) = ((35 : UInt8) :: u).length := by
        rw [token_hex] at h
        split at h
        · exact (some4 h).2.2.2
        · cases h
      obtain ⟨e1, e2, e3⟩ := run_keep hw hn
      rw [token_hex, e3, hw] at h
      rw [token_hex, e2, e1]
      exact h
    · rw [token_quo] at h ⊢
      cases hq : quoted (39 :: (u ++ v)) with
      | none => rw [hq] at h; cases h
      | some q =>
        obtain ⟨z, n⟩ := q
        rw [hq] at h
        dsimp only at h
        obtain ⟨g1, g2, g3, g4⟩ := some4 h
        subst g4
        rw [← List.cons_append] at hq ⊢
        rw [quoted_pre (quoted_cut hq)]
        exact h
    · rw [token_sym h1 h2 h3 h4] at h ⊢
      split at h
      · rename_i hc
        obtain ⟨g1, g2, g3, g4⟩ := some4 h
        cases u with
        | nil => simp at g4
        | cons d u =>
          have hu : u = [] := by
            simp only [List.length_cons] at g4
            exact List.eq_nil_of_length_eq_zero (by omega)
          subst hu
          rw [if_pos ⟨by simp, hc.2⟩]
          exact h
      · rename_i hc
        split at h
        · rename_i hc2
          obtain ⟨g1, g2, g3, g4⟩ := some4 h
          have hu : u = [] := by
            simp only [List.length_cons] at g4
            exact List.eq_nil_of_length_eq_zero (by omega)
          subst hu
          rw [List.nil_append] at hc ⊢
          have hno : ¬ (1 < (c :: v').length ∧ isSym ((c :: v').take 2) = true) := by
            rintro ⟨k1, k2⟩
            rcases hn with rfl | h | ⟨hne, h⟩
            · simp at k1
            · cases v' with
              | nil => cases h
              | cons d v' =>
                injection h with h
                subst h
                have : isSym [c, 32] = true := k2
                rw [sym_no32] at this
                cases this
            · cases v' with
              | nil => exact hne rfl
              | cons d v' =>
                cases v with
                | nil => cases h
                | cons e v =>
                  injection h with h
                  subst h
                  exact hc ⟨by simp, k2⟩
          rw [if_neg hno, if_pos hc2]
          exact h
        · cases h
end Go.Proofs.YtblckajejohlbaaDoor.L8
