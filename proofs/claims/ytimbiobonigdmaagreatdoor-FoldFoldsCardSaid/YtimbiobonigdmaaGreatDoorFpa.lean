/- What FoldAgain and FoldKeeps say, of the pure functions. Plain Lean. -/
import Derived.Test.YtimbiobonigdmaaGreatDoorFob
set_option linter.unusedVariables false
set_option linter.unusedSimpArgs false
set_option linter.unusedVariables false
set_option linter.unusedSimpArgs false
namespace Go.Proofs.YtimbiobonigdmaaGreatDoor.L14
open Go L8 L10

def ansX : Option Int → Int × Int
  | some v => (v, 0)
  | none => (0, 140)
theorem constX_of {e : Ex} {r : List Sp} (h : mayE e = true) : constX e r = ansX (vOf (mgS r) e) := by
  unfold constX
  rw [if_pos h]
  cases vOf (mgS r) e <;> rfl
theorem again_plain {e : Ex} (r : List Sp) (h : mayE e = true) : ∃ x, foldX e r = (x, 0) ∧ mayE x = true ∧ foldX x r = (x, 0) ∧ constX x r = constX e r ∧ ((constX e r).2 = 0 → e.k ≠ 4 → (x.k = 1 ∨ x.k = 2 ∨ x.k = 3) ∧ x.n = (constX e r).1) := by
  have hm : mayE (fOf (mgS r) e) = true := fold_may _ _ _ h
  refine ⟨fOf (mgS r) e, by unfold foldX; rw [if_pos h], hm, ?_, ?_, ?_⟩
  · unfold foldX
    rw [if_pos hm]
    unfold fOf
    rw [fold_twice]
  · rw [constX_of h, constX_of hm]
    unfold vOf fOf
    rw [fold_keeps (tau (mgS r)) (fun _ _ h => h) (fun _ _ h => h) e]
  · rw [constX_of h]
    intro h0 hk
    cases hv : vOf (mgS r) e with
    | none => rw [hv] at h0; exact absurd h0 (by decide)
    | some v =>
      obtain ⟨K, hK, h3⟩ := fold_lit (u := tau (mgS r)) h hk hv
      unfold fOf
      rw [hK]
      exact ⟨h3, rfl⟩
/-! ### More constants -/
def decl (l : List Sp) (s : Bs) : Bool := l.any fun x => decide (s ∈ x.ns)
theorem mg_none : ∀ (r : List Sp) (s : Bs), decl r s = false → mgS r s = none
  | [], _, _ => rfl
  | x :: r, s, h => by
    unfold decl at h
    rw [List.any_cons, Bool.or_eq_false_iff] at h
    rw [mgS_out (of_decide_eq_false h.1)]
    exact mg_none r s h.2
theorem decl_rev (l : List Sp) (s : Bs) : decl l.reverse s = decl l s := by unfold decl; rw [List.any_reverse]
/-- Specifications behind an environment, each of names that it does not declare. -/
theorem mg_more (r : List Sp) : ∀ (a : List Sp), (∀ x ∈ a, ∀ s ∈ x.ns, decl r s = false) → ∀ s v, mgS r s = some v → mgS (a ++ r) s = some v
  | [], _, _, _, h => h
  | x :: a, hx, s, v, h => by
    rw [List.cons_append]
    have hn : ¬ s ∈ x.ns := fun hs => by
      rw [mg_none r s (hx x (List.mem_cons_self ..) s hs)] at h; cases h
    rw [mgS_out hn]
    exact mg_more r a (fun y hy => hx y (List.mem_cons_of_mem _ hy)) s v h
theorem keeps_plain {e : Ex} (r a : List Sp) (h : mayE e = true) (ha : ∀ x ∈ a, ∀ s ∈ x.ns, decl r s = false) : ∃ x, foldX e r = (x, 0) ∧ mayE x = true ∧ constX x (a ++ r) = constX e (a ++ r) := by
  have hm : mayE (fOf (mgS r) e) = true := fold_may _ _ _ h
  refine ⟨fOf (mgS r) e, by unfold foldX; rw [if_pos h], hm, ?_⟩
  rw [constX_of h, constX_of hm]
  unfold vOf fOf
  rw [fold_keeps (tau (mgS r)) (fun s v hs => ?_) (fun s v hs => ?_) e]
  all_goals
    first | unfold rho at hs ⊢ | unfold sig at hs ⊢
    cases hq : mgS r s with
    | none => rw [hq] at hs; cases hs
    | some q =>
      rw [hq] at hs
      rw [mg_more r a ha s q hq]
      exact hs
/-- The constants that FoldKeeps adds, in their order: what it has added after i names. -/
def addK (l : List Sp) (ns : List Bs) (m : List Int) (f : Bs → Int → Sp) : Nat → List Sp
  | 0 => []
  | i + 1 => if i < m.length ∧ decl l (ns.getD i []) = false then addK l ns m f i ++ [f (ns.getD i []) (m.getD i 0)] else addK l ns m f i
theorem addK_len (l : List Sp) (ns : List Bs) (m : List Int) (f : Bs → Int → Sp) (i : Nat) : (addK l ns m f i).length ≤ m.length ∧ (addK l ns m f i).length ≤ i := by
  have key : ∀ i, (addK l ns m f i).length ≤ min i m.length := by
    intro i
    induction i with
    | zero => exact Nat.zero_le _
    | succ i ih =>
      rw [addK]
      by_cases h : i < m.length ∧ decl l (ns.getD i []) = false
      · rw [if_pos h, List.length_append, List.length_singleton]; omega
      · rw [if_neg h]; omega
  have := key i
  omega
theorem addK_in (l : List Sp) (ns : List Bs) (m : List Int) (f : Bs → Int → Sp) (hf : ∀ s v, (f s v).ns = [s]) (i : Nat) : ∀ x ∈ addK l ns m f i, ∀ s ∈ x.ns, decl l s = false := by
  induction i with
  | zero => intro x hx; cases hx
  | succ i ih =>
    rw [addK]
    by_cases h : i < m.length ∧ decl l (ns.getD i []) = false
    · rw [if_pos h]
      intro x hx s hs
      rcases List.mem_append.1 hx with hx | hx
      · exact ih x hx s hs
      · rw [List.mem_singleton.1 hx, hf] at hs
        rw [List.mem_singleton.1 hs]
        exact h.2
    · rw [if_neg h]; exact ih
/-! ### Whether an environment is great -/
def grtX (l : List Sp) : Bool := ((l.take 200).any fun x => decide (8 < x.ns.length)) || decide (200 < l.length)
end Go.Proofs.YtimbiobonigdmaaGreatDoor.L14
