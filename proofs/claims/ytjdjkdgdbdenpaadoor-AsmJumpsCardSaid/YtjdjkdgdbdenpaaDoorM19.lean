/- The reference's tests of lines: existing instructions, valid lines, labels that exist, equality. -/
import Derived.Test.YtjdjkdgdbdenpaaDoorM18
set_option linter.unusedVariables false
set_option linter.unusedSimpArgs false
namespace Go.Proofs.YtjdjkdgdbdenpaaDoor
open Go Go.RowKit

theorem fn_tests (n : Nat) (a : Int) (h : n < 256) : (decide ((n : Int) < 15) && ((n : Int) != 2) && ((n : Int) != 6)) = (ex (n : Int) a && ((n : Int) != 15)) := by
  by_cases h15 : n < 15
  · have hq : ((n : Int) != 15) = true := by simp; omega
    rw [hq, Bool.and_true, (ex_nm (f := (n : Int)) (a := a) (b := 0) (.inl (by omega))).1]
    have : ∀ k : Fin 15, (decide ((k.val : Int) < 15) && ((k.val : Int) != 2) && ((k.val : Int) != 6)) = ex (k.val : Int) 0 := by decide
    exact this ⟨n, h15⟩
  · rw [decide_eq_false (show ¬ (n : Int) < 15 by omega), Bool.false_and, Bool.false_and]
    by_cases h2 : n = 15
    · subst h2; simp
    · have : ex (n : Int) a = false := by
        rw [Bool.eq_false_iff]
        intro he
        have := (ex_le he).1
        omega
      rw [this, Bool.false_and]
theorem vld_ref (x : Ln) (hx : x.fn < 256) {g h e t f l r z p q s : Bool} (hg : x.lab.isEmpty = g) (hh : isLab x.lab = h) (he : ex x.fn x.arg = e) (ht : x.tgt.isEmpty = t) (hf : x.fr.isEmpty = f) (hl : isLab x.tgt = l) (hr : isLab x.fr = r) (hz : (x.arg == 0) = z)
    (hp : decide ((x.fn : Int) < 15) = p) (hq : ((x.fn : Int) != 2) = q) (hs : ((x.fn : Int) != 6) = s) :
    vld x = ((g || h) && (if t = true then f && e else l && (f || r) && z && p && q && s)) := by
  have h1 := vld_as x rfl rfl rfl rfl rfl rfl rfl rfl
  rw [h1]
  have h2 := fn_tests x.fn x.arg hx
  unfold orNone
  subst hg hh he ht hf hl hr hz hp hq hs
  congr 1
  by_cases h : x.tgt.isEmpty = true
  · rw [if_pos h, if_pos h]
  · rw [if_neg h, if_neg h]
    have hb : ∀ L X Z A B P Q S : Bool, (P && Q && S) = (A && B) → (L && X && Z && A && B) = (L && X && Z && P && Q && S) := by decide
    exact hb _ _ _ _ _ _ _ _ h2
end Go.Proofs.YtjdjkdgdbdenpaaDoor
