/- Contracts of the integer functions of the reference of layer 1: each returns what its twin of package word returns, for all words. -/
import Derived.Test.YtldnmdadlgjbgaaDoorWi
set_option linter.unusedVariables false
set_option linter.unusedSimpArgs false
namespace Go.Proofs.YtldnmdadlgjbgaaDoor.W1
open Go Go.RowKit

theorem emod_of_tmod_neg {t : Int} (h : t.tmod 4294967296 < 0) : t.tmod 4294967296 + 4294967296 = t % 4294967296 := by
  have h1 : t = 4294967296 * t.tdiv 4294967296 + t.tmod 4294967296 := (Int.mul_tdiv_add_tmod t 4294967296).symm
  have h2 := Int.lt_tmod_of_pos t (show (0 : Int) < 4294967296 by omega)
  generalize t.tmod 4294967296 = r at *
  generalize t.tdiv 4294967296 = q at *
  omega
theorem emod_of_tmod_nonneg {t : Int} (h : ¬ t.tmod 4294967296 < 0) : t.tmod 4294967296 = t % 4294967296 := by
  have h1 : t = 4294967296 * t.tdiv 4294967296 + t.tmod 4294967296 := (Int.mul_tdiv_add_tmod t 4294967296).symm
  have h2 := Int.tmod_lt_of_pos t (show (0 : Int) < 4294967296 by omega)
  generalize t.tmod 4294967296 = r at *
  generalize t.tdiv 4294967296 = q at *
  omega
theorem tmod_rng (t : Int) : -4294967296 < t.tmod 4294967296 ∧ t.tmod 4294967296 < 4294967296 :=
  ⟨Int.lt_tmod_of_pos t (by omega), Int.tmod_lt_of_pos t (by omega)⟩
/-- A number far from the ends of an int64. -/
def isD (t : Int) : Prop := -4611686018427387904 ≤ t ∧ t ≤ 4611686018427387904
theorem tdiv_same {a b : Int} (h : (a < 0) ↔ (b < 0)) : a.tdiv b = (a.natAbs : Int) / (b.natAbs : Int) := by
  rcases Int.lt_or_le a 0 with ha | ha
  · have hb := h.1 ha
    rw [show (a.natAbs : Int) = -a by omega, show (b.natAbs : Int) = -b by omega, ← Int.tdiv_eq_ediv_of_nonneg (by omega), Int.neg_tdiv, Int.tdiv_neg, Int.neg_neg]
  · have hb : ¬ b < 0 := fun hb => by have := h.2 hb; omega
    rw [show (a.natAbs : Int) = a by omega, show (b.natAbs : Int) = b by omega, ← Int.tdiv_eq_ediv_of_nonneg (by omega)]
theorem tdiv_other {a b : Int} (h : ¬ ((a < 0) ↔ (b < 0))) : a.tdiv b = -((a.natAbs : Int) / (b.natAbs : Int)) := by
  rcases Int.lt_or_le a 0 with ha | ha
  · have hb : ¬ b < 0 := fun hb => h ⟨fun _ => hb, fun _ => ha⟩
    rw [show (a.natAbs : Int) = -a by omega, show (b.natAbs : Int) = b by omega, ← Int.tdiv_eq_ediv_of_nonneg (by omega), Int.neg_tdiv, Int.neg_neg]
  · have hb : b < 0 := by
      rcases Int.lt_or_le b 0 with hb | hb
      · exact hb
      · exact absurd ⟨fun h => by omega, fun h => by omega⟩ h
    rw [show (a.natAbs : Int) = a by omega, show (b.natAbs : Int) = -b by omega, ← Int.tdiv_eq_ediv_of_nonneg (by omega), Int.tdiv_neg, Int.neg_neg]
theorem quo_bd {a b : Int} (ha : isW a) : 0 ≤ (a.natAbs : Int) / (b.natAbs : Int) ∧ (a.natAbs : Int) / (b.natAbs : Int) ≤ 2147483648 := by
  obtain ⟨a0, a1⟩ := ha
  have hm : a.natAbs ≤ 2147483648 := by omega
  have hd : a.natAbs / b.natAbs ≤ a.natAbs := Nat.div_le_self ..
  have hc : ((a.natAbs / b.natAbs : Nat) : Int) = (a.natAbs : Int) / (b.natAbs : Int) := Int.natCast_ediv ..
  rw [← hc]
  generalize a.natAbs / b.natAbs = q at *
  generalize a.natAbs = m at *
  omega
theorem natAbs_mod {a b : Int} : ((a.natAbs : Int) % (b.natAbs : Int)) = ((a.tmod b).natAbs : Int) := by
  rw [Int.natAbs_tmod, ← Int.natCast_emod]
theorem tmod_sign {a b : Int} : (a < 0 → a.tmod b ≤ 0) ∧ (0 ≤ a → 0 ≤ a.tmod b) := by
  refine ⟨fun h => ?_, fun h => Int.tmod_nonneg b h⟩
  have := Int.tmod_nonneg (a := -a) b (by omega)
  rw [Int.neg_tmod] at this
  omega
end Go.Proofs.YtldnmdadlgjbgaaDoor.W1
