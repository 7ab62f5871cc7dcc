/- The chapter's examples and limits: what Rows and May answer there. -/
import Derived.Test.YtkhmpmjonkmbeaaDoorGrq
set_option linter.unusedVariables false
set_option linter.unusedSimpArgs false
namespace Go.Proofs.YtkhmpmjonkmbeaaDoor
open Go Go.RowKit L7

def a256 : Bs := List.replicate 256 97
def kn1 : Bs := [83, 69, 81, 10, 32, 32, 32, 32, 120, 32, 58, 61, 32, 49]
def kn2 : Bs := [32, 32, 83, 75, 73, 80]
def kn3 : Bs := [120, 32, 58, 61, 32, 49, 32, 43, 10, 45, 45, 32, 101, 110, 100]
def kn4 : Bs := [83, 69, 81, 10, 32, 32, 120, 32, 58, 61, 10, 32, 49]
def kn5 : Bs := [83, 75, 73, 80, 10, 10, 9, 83, 75, 73, 80]
def kn6 : Bs := [32, 83, 75, 73, 80, 10, 45, 45, 127]
theorem rows_kn1 : rows kn1 = ([], 2, 70) := rows_all (s := kn1) (by decide +kernel) (by decide +kernel) (R := .error (2, 70)) (by kernel_rfl)
theorem rows_kn2 : rows kn2 = ([], 1, 70) := rows_all (s := kn2) (by decide +kernel) (by decide +kernel) (R := .error (1, 70)) (by kernel_rfl)
theorem rows_kn3 : rows kn3 = ([], 1, 5) := rows_all (s := kn3) (by decide +kernel) (by decide +kernel) (R := .error (1, 5)) (by kernel_rfl)
theorem rows_kn4 : rows kn4 = ([], 3, 70) := rows_all (s := kn4) (by decide +kernel) (by decide +kernel) (R := .error (3, 70)) (by kernel_rfl)
theorem rows_kn5 : rows kn5 = ([], 3, 5) := rows_bad (s := kn5) (by decide +kernel) (k := 2) (by decide +kernel)
theorem rows_kn6 : rows kn6 = ([], 2, 5) := rows_bad (s := kn6) (by decide +kernel) (k := 1) (by decide +kernel)
theorem rows_kn7 : rows (List.replicate 65537 32) = ([], 0, 3) := by
  unfold rows
  rw [if_pos (by rw [List.length_replicate]; decide)]
def kn8 : Bs := [83, 75, 73, 80, 10] ++ a256 ++ [97]
def kn9 : Bs := a256 ++ [97, 32, 43, 10]
theorem rows_kn8 : rows kn8 = ([], 2, 3) := rows_all (s := kn8) (by decide +kernel) (by decide +kernel) (R := .error (2, 3)) (by kernel_rfl)
theorem rows_kn9 : rows kn9 = ([], 1, 5) := rows_all (s := kn9) (by decide +kernel) (by decide +kernel) (R := .error (1, 5)) (by kernel_rfl)
/-! ### Lines of one letter -/
theorem aa_lines (n : Nat) : Lib.repeatL [97, 10] n = (List.replicate n ([97] : Bs)).flatMap fun p => p ++ [10] := by
  induction n with
  | zero => rfl
  | succ n ih =>
    unfold Lib.repeatL
    rw [ih, List.replicate_succ, List.flatMap_cons]
    rfl
theorem rows_aa : ∀ (n k i : Nat) (before : Int), -1 ≤ before → k ≤ 2048 → 2048 < k + n →
    rowsOf before k (itemsOf (List.replicate n ([97] : Bs) ++ [[]]) i) = .error (i + (2048 - k), 3) := by
  intro n
  induction n with
  | zero => intro k i before _ h1 h2; omega
  | succ n ih =>
    intro k i before hb hk hn
    have hc : Cont ([97] : Bs) := ⟨by decide, by decide, by decide, by decide, by decide⟩
    have e : itemsOf (List.replicate (n + 1) ([97] : Bs) ++ [[]]) i = (i, 0, [97]) :: itemsOf (List.replicate n ([97] : Bs) ++ [[]]) (i + 1) := by
      rw [List.replicate_succ, List.cons_append]
      exact items_cons hc 0 _ i
    rw [e]
    have hg : ∀ r, glue 0 i ([97] : Bs) r = .ok ([97], r) := fun r => glue_no (by decide)
    unfold rowsOf
    rw [if_neg (by omega)]
    split
    · rename_i e he
      rw [hg] at he
      cases he
    · rename_i t r' he
      rw [hg] at he
      injection he with he
      injection he with ht hr
      subst ht hr
      by_cases hk2 : k = 2048
      · rw [if_pos (.inr (.inr hk2)), hk2]
        rfl
      · rw [if_neg (by simp; omega), ih (k + 1) (i + 1) _ (by simp) (by omega) (by omega)]
        show Except.error (i + 1 + (2048 - (k + 1)), (3 : Int)) = _
        congr 2
        omega
def kn10 : Bs := Lib.repeatL [97, 10] 2049
theorem kn10_len : kn10.length = 4098 := by
  unfold kn10
  have h : ∀ n, (Lib.repeatL [97, 10] n).length = 2 * n := by
    intro n
    induction n with
    | zero => rfl
    | succ n ih => unfold Lib.repeatL; rw [List.length_append, ih]; simp only [List.length_cons, List.length_nil]; omega
  rw [h]
theorem rows_kn10 : rows kn10 = ([], 2049, 3) := by
  have hl : lnsOf kn10 = List.replicate 2049 [97] ++ [[]] := by
    unfold kn10
    rw [aa_lines]
    refine lns_src fun p hp => ?_
    rw [(List.mem_replicate.1 hp).2]
    intro c hc
    rw [List.mem_singleton.1 hc]
    decide
  have hb : badLine (lnsOf kn10) = none := by
    unfold badLine
    rw [List.findIdx?_eq_none_iff, hl]
    intro p hp
    rcases List.mem_append.1 hp with hp | hp
    · rw [(List.mem_replicate.1 hp).2]; decide
    · rw [List.mem_singleton.1 hp]; decide
  unfold rows
  rw [if_neg (by rw [kn10_len]; decide), hb, hl, rows_aa 2049 0 1 (-1) (by decide) (by decide) (by decide)]
  rfl
def kn11 : Bs := a256 ++ [32, 32, 45, 45, 32] ++ a256 ++ [10, 32, 32, 32, 45, 45]
theorem rows_kn11 : rows kn11 = ([⟨1, 0, a256⟩], 0, 0) := rows_all (s := kn11) (by decide +kernel) (by decide +kernel) (R := .ok [⟨1, 0, a256⟩]) (by kernel_rfl)
/-! ### Deeper and deeper -/
def deepT : Nat → Bs
  | 0 => []
  | i + 1 => deepT i ++ List.replicate (2 * i) 32 ++ [83, 69, 81, 10]
theorem deepT_len : ∀ (k : Nat), k ≤ 33 → (deepT k).length ≤ 70 * k := by
  intro k
  induction k with
  | zero => intro _; simp [deepT]
  | succ k ih =>
    intro h
    have := ih (by omega)
    unfold deepT
    simp only [List.length_append, List.length_replicate, List.length_cons, List.length_nil]
    omega
def deepR : List Rw := (List.range 33).map fun (i : Nat) => ⟨(i : Int) + 1, (i : Int), [83, 69, 81]⟩
theorem deepR_len : deepR.length = 33 := by simp [deepR]
theorem rows_kn12 : rows (deepT 33) = (deepR, 0, 0) := rows_all (s := deepT 33) (by decide +kernel) (by decide +kernel) (R := .ok deepR) (by kernel_rfl)
def kn13 : Bs := deepT 33 ++ List.replicate 66 32 ++ [83, 75, 73, 80]
theorem rows_kn13 : rows kn13 = ([], 34, 3) := rows_all (s := kn13) (by decide +kernel) (by decide +kernel) (R := .error (34, 3)) (by kernel_rfl)
theorem rows_kn14 : rows [] = ([], 0, 0) := rows_all (s := []) (by decide +kernel) (by decide +kernel) (R := .ok []) (by kernel_rfl)
/-! ### Valid or not -/
def bad11 : List Rw := [⟨0, 0, [97]⟩, ⟨1, 1, [97]⟩, ⟨1, 0, []⟩, ⟨1, 0, [97, 32]⟩, ⟨1, 0, [32, 97]⟩, ⟨1, 0, [97, 45, 45, 98]⟩, ⟨1, 0, [97, 44]⟩, ⟨1, 0, [97, 9, 98]⟩, ⟨1, 0, a256 ++ [97]⟩, ⟨65537, 0, [97]⟩, ⟨1, -1, [97]⟩]
theorem may_bad11 : ∀ k, k < 11 → may [bad11.getD k r0] = false := by decide +kernel
theorem okl_bad11 : OKL bad11 := by
  have : ∀ x ∈ bad11, x.tx.length ≤ 300 := by decide +kernel
  intro x hx
  have := this x hx
  unfold OKx maxLen; omega
theorem may_one : may [⟨65536, 0, a256⟩] = true := by decide +kernel
theorem may_two : may [⟨2, 0, [97]⟩, ⟨2, 0, [97]⟩] = false := by decide +kernel
end Go.Proofs.YtkhmpmjonkmbeaaDoor
