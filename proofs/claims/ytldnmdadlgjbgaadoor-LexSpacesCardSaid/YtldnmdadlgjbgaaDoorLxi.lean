/- Lengths of what is read, places of errors. Plain Lean. -/
import Derived.Test.YtldnmdadlgjbgaaDoorLxd
set_option linter.unusedVariables false
set_option linter.unusedSimpArgs false
namespace Go.Proofs.YtldnmdadlgjbgaaDoor.L8
open Go

theorem toks_len_le : ∀ (N : Nat) (s : Bs) (p : Nat) (l : List Tk), s.length ≤ N → toks s p = .ok l → l.length ≤ s.length := by
  intro N
  induction N with
  | zero =>
    intro s p l h hl
    obtain rfl : s = [] := List.eq_nil_of_length_eq_zero (by omega)
    rw [toks_nil] at hl
    injection hl with hl
    subst hl
    exact Nat.le_refl _
  | succ N ih =>
    intro s p l h hl
    rcases toks_ways s with rfl | ⟨r, rfl⟩ | ⟨c, r, rfl, hc, ht⟩ | ⟨c, r, k, tx, v, n, rfl, hc, ht⟩
    · rw [toks_nil] at hl
      injection hl with hl
      subst hl
      exact Nat.le_refl _
    · rw [toks_sp] at hl
      have := ih r (p + 1) l (by simpa using h) hl
      rw [List.length_cons]; omega
    · rw [toks_bad hc ht] at hl; cases hl
    · have hlen := token_len ht
      rw [toks_tok hc ht] at hl
      cases hd : toks ((c :: r).drop n) (p + n) with
      | error e => rw [hd] at hl; cases hl
      | ok l' =>
        rw [hd] at hl
        injection hl with hl
        subst hl
        have := ih _ (p + n) l' (by rw [List.length_drop]; omega) hd
        rw [List.length_drop] at this
        rw [List.length_cons]
        omega
theorem toks_err_le : ∀ (N : Nat) (s : Bs) (p e : Nat), s.length ≤ N → toks s p = .error e → p ≤ e ∧ e < p + s.length := by
  intro N
  induction N with
  | zero =>
    intro s p e h hl
    obtain rfl : s = [] := List.eq_nil_of_length_eq_zero (by omega)
    rw [toks_nil] at hl; cases hl
  | succ N ih =>
    intro s p e h hl
    rcases toks_ways s with rfl | ⟨r, rfl⟩ | ⟨c, r, rfl, hc, ht⟩ | ⟨c, r, k, tx, v, n, rfl, hc, ht⟩
    · rw [toks_nil] at hl; cases hl
    · rw [toks_sp] at hl
      have := ih r (p + 1) e (by simpa using h) hl
      rw [List.length_cons]; omega
    · rw [toks_bad hc ht] at hl
      injection hl with hl
      rw [List.length_cons]; omega
    · have hlen := token_len ht
      rw [toks_tok hc ht] at hl
      cases hd : toks ((c :: r).drop n) (p + n) with
      | ok l' => rw [hd] at hl; cases hl
      | error e' =>
        rw [hd] at hl
        injection hl with hl
        subst hl
        have := ih _ (p + n) e' (by rw [List.length_drop]; omega) hd
        rw [List.length_drop] at this
        omega
end Go.Proofs.YtldnmdadlgjbgaaDoor.L8
