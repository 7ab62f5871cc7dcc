/- The reference's words and symbols. -/
import Derived.Test.YtldnmdadlgjbgaaDoorKit
import Derived.Test.YtldnmdadlgjbgaaDoorLxd
set_option linter.unusedVariables false
set_option linter.unusedSimpArgs false
namespace Go.Proofs.YtldnmdadlgjbgaaDoor
open Go Go.RowKit L8

theorem byte_eq (a : UInt8) (k : Nat) (hk : k < 256) (b : UInt8) (hb : b.toNat = k) : ((a.toNat : Int) == (k : Int)) = decide (a = b) := by
  by_cases h : a = b
  · subst h; simp [hb]
  · have : a.toNat ≠ k := fun e => h (UInt8.toNat_inj.1 (e.trans hb.symm))
    simp [h]; omega
theorem dle (a b : Nat) : decide (a ≤ b) = decide ((a : Int) ≤ (b : Int)) := decide_eq_decide.2 (by omega)
theorem letter_int (c : UInt8) (n : Nat) (h : c.toNat = n) : letter c = ((decide ((65 : Int) ≤ (n : Int)) && decide ((n : Int) ≤ 90)) || (decide ((97 : Int) ≤ (n : Int)) && decide ((n : Int) ≤ 122))) := by
  subst h
  unfold letter
  rw [dle 65, dle _ 90, dle 97, dle _ 122]
  rfl
theorem digit_int (c : UInt8) (n : Nat) (h : c.toNat = n) : digit c = (decide ((48 : Int) ≤ (n : Int)) && decide ((n : Int) ≤ 57)) := by
  subst h
  unfold digit
  rw [dle 48, dle _ 57]
  rfl
theorem ownS_new' {w : World} {q : Nat} {ss : List Bs} (hl : ss.length ≤ maxLen) (hq : w.heap[q]? = some (.cells (sC ss).toArray 9 (0, 0))) : SS w (some ⟨q, 0, none⟩) ss.length ss :=
  OwnS.ss (B := 0) (n := ss.length) ⟨by rw [sC_len]; omega, .inr ⟨q, ss.length, _, rfl, Nat.zero_le _, hq, Nat.le_refl _, hl, by simp [sC_len], by simp [List.take_of_length_le, sC_len]⟩⟩
theorem contains_hit {ss : List Bs} {s : Bs} {k : Nat} (hk : k < ss.length) (h : ss.getD k [] = s) : ss.contains s = true := by
  have : ss[k] = s := by rw [← h]; simp [hk]
  rw [← this]
  simp
theorem contains_miss {ss : List Bs} {s : Bs} (h : ∀ j, j < ss.length → ss.getD j [] ≠ s) : ss.contains s = false := by
  cases hc : ss.contains s with
  | false => rfl
  | true =>
    obtain ⟨i, hi, e⟩ := List.getElem_of_mem (show s ∈ ss by simpa using hc)
    exact absurd (by simp [hi, e]) (h i hi)
end Go.Proofs.YtldnmdadlgjbgaaDoor
