/- What FoldShadows says, of the pure functions. -/
import Derived.Test.YtimbiobonigdmaaDoorM15
set_option linter.unusedVariables false
set_option linter.unusedSimpArgs false
set_option linter.unusedVariables false
set_option linter.unusedSimpArgs false
namespace Go.Proofs.YtimbiobonigdmaaDoor
open Go L8 L10 L14

def aB : Bs := [97]
def yB : Bs := [121]
def zB : Bs := [122]
def ovS (k : Nat) (d w : Int) : Sp := ⟨k, 1, d, [aB, xB], litE 1 w⟩
def shL (v w : Int) (k : Nat) (d : Int) : List Sp := [valS xB (litE 1 v), valS yB (litE 1 w), ovS k d w]
theorem lit1_may (w : Int) : mayE (litE 1 w) = true := by
  rw [lit_may]
  rfl
theorem lit1_val (p q : Bs → Option Int) (w : Int) : valE p q (litE 1 w) = some w := rfl
theorem sh_at (v w : Int) (k : Nat) (d : Int) : mgS (shL v w k d).reverse xB = some (entS (mgS [valS yB (litE 1 w), valS xB (litE 1 v)]) (ovS k d w)) := rfl
theorem sh_aa (v w : Int) (k : Nat) (d : Int) : mgS (shL v w k d).reverse aB = some (entS (mgS [valS yB (litE 1 w), valS xB (litE 1 v)]) (ovS k d w)) := rfl
theorem sh_size (v w : Int) (k : Nat) (d : Int) : constX (.mk 9 0 0 0 xB []) (shL v w k d).reverse = if k = 1 ∧ 1 ≤ d ∧ d ≤ 2147483647 then (d, 0) else (0, 140) := by
  have hm : mayE (.mk 9 0 0 0 xB []) = true := by decide +kernel
  unfold constX
  rw [if_pos hm]
  have e9 : vOf (mgS (shL v w k d).reverse) (.mk 9 0 0 0 xB []) = sig (mgS (shL v w k d).reverse) xB := by unfold vOf; rw [valE_eq]; rfl
  rw [e9]
  unfold sig
  rw [sh_at]
  show (match szS (ovS k d w) with | some v => (v, (0 : Int)) | none => ((0 : Int), (140 : Int))) = _
  unfold szS
  show (match (if k = 1 ∧ 1 ≤ d ∧ d ≤ 2147483647 then some d else none) with | some v => (v, (0 : Int)) | none => ((0 : Int), (140 : Int))) = _
  by_cases h : k = 1 ∧ 1 ≤ d ∧ d ≤ 2147483647
  · rw [if_pos h, if_pos h]
  · rw [if_neg h, if_neg h]
theorem name_const (m : List Sp) (s : Bs) (hm : mayE (nameE s) = true) : constX (nameE s) m = match rho (mgS m) s with | some v => (v, (0 : Int)) | none => ((0 : Int), (140 : Int)) := by
  unfold constX
  rw [if_pos hm]
  rfl
theorem ov_rho (m : Mg) (w : Int) (k : Nat) (d : Int) : (entS m (ovS k d w)).2 = if k = 2 then some w else none := by
  show (if vald (ovS k d w) = true then valE (rho m) (sig m) (litE 1 w) else none) = _
  have : vald (ovS k d w) = decide (k = 2) := by
    show (decide (k = 2) && mayE (litE 1 w)) = _
    rw [lit1_may, Bool.and_true]
  rw [this]
  by_cases h : k = 2
  · rw [if_pos h, if_pos (decide_eq_true h)]; rfl
  · rw [if_neg h, if_neg (by rw [decide_eq_false h]; simp)]
theorem sh_x (v w : Int) (k : Nat) (d : Int) : constX (nameE xB) (shL v w k d).reverse = if k = 2 then (w, 0) else (0, 140) := by
  rw [name_const _ _ (by decide +kernel)]
  unfold rho
  rw [sh_at]
  show (match (entS _ (ovS k d w)).2 with | some v => (v, (0 : Int)) | none => ((0 : Int), (140 : Int))) = _
  rw [ov_rho]
  by_cases h : k = 2
  · rw [if_pos h, if_pos h]
  · rw [if_neg h, if_neg h]
theorem sh_a (v w : Int) (k : Nat) (d : Int) : constX (nameE aB) (shL v w k d).reverse = if k = 2 then (w, 0) else (0, 140) := by
  rw [name_const _ _ (by decide +kernel)]
  unfold rho
  rw [sh_aa]
  show (match (entS _ (ovS k d w)).2 with | some v => (v, (0 : Int)) | none => ((0 : Int), (140 : Int))) = _
  rw [ov_rho]
  by_cases h : k = 2
  · rw [if_pos h, if_pos h]
  · rw [if_neg h, if_neg h]
theorem sh_y (v w : Int) (k : Nat) (d : Int) : constX (nameE yB) (shL v w k d).reverse = (w, 0) := by
  rw [name_const _ _ (by decide +kernel)]
  show (match (if vald (valS yB (litE 1 w)) = true then some w else none) with | some v => (v, (0 : Int)) | none => ((0 : Int), (140 : Int))) = _
  have : vald (valS yB (litE 1 w)) = true := by
    show (decide (2 = 2) && mayE (litE 1 w)) = true
    rw [lit1_may]; rfl
  rw [if_pos this]
theorem sh_z (v w : Int) (k : Nat) (d : Int) : constX (nameE zB) (shL v w k d).reverse = (0, 140) := by
  rw [name_const _ _ (by decide +kernel)]
  rfl
end Go.Proofs.YtimbiobonigdmaaDoor
