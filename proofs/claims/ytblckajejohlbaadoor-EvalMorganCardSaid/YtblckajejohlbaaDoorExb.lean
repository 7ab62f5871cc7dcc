/- The tokens of a tree; reading. Plain Lean. -/
import Derived.Test.YtblckajejohlbaaDoorExa
set_option linter.unusedVariables false
set_option linter.unusedSimpArgs false
set_option linter.unusedVariables false
set_option linter.unusedSimpArgs false
namespace Go.Proofs.YtblckajejohlbaaDoor.L10
open Go L8

/-! ### Words and tokens -/
def ops : List Bs := [[43], [45], [42], [47], [92], [80, 76, 85, 83], [77, 73, 78, 85, 83], [84, 73, 77, 69, 83], [47, 92], [92, 47], [62, 60], [60, 60], [62, 62], [61], [60, 62], [60], [62], [60, 61], [62, 61], [65, 78, 68], [79, 82], [65, 70, 84, 69, 82], [45], [77, 73, 78, 85, 83], [126], [78, 79, 84]]
def opW (o : Nat) : Bs := if 1 ≤ o ∧ o ≤ 26 then ops.getD (o - 1) [] else []
def isOp (o : Nat) : Bool := decide (1 ≤ o) && decide (o ≤ 26)
def kw (s : Bs) : Tk := ⟨2, 0, s, 0⟩
def sy (s : Bs) : Tk := ⟨5, 0, s, 0⟩
def nm (s : Bs) : Tk := ⟨1, 0, s, 0⟩
def nb (n : Int) : Tk := ⟨3, 0, [], n⟩
def by_ (n : Int) : Tk := ⟨4, 0, [], n⟩
def z0 : Tk := ⟨0, 0, [], 0⟩
def mk (o : Nat) : Tk := if isKey (opW o) = true then kw (opW o) else sy (opW o)
def wSize : Bs := [83, 73, 90, 69]
def wTrue : Bs := [84, 82, 85, 69]
def wFalse : Bs := [70, 65, 76, 83, 69]
def wInt : Bs := [73, 78, 84]
def wByte : Bs := [66, 89, 84, 69]
def wBool : Bs := [66, 79, 79, 76]
def wd (k : Nat) : Bs := if k = 1 then wInt else if k = 2 then wByte else wBool
def lp : Tk := sy [40]
def rp : Tk := sy [41]
def lb : Tk := sy [91]
def rb : Tk := sy [93]
/-- An operand of this kind is written in parentheses. -/
def big (k : Nat) : Bool := decide (k = 6) || (decide (k = 7) || (decide (k = 8) || decide (k = 9)))
def par (k : Nat) (l : List Tk) : List Tk := if big k = true then lp :: (l ++ [rp]) else l
/-- A tree's tokens, of those of its parts and of those of its parts as operands. -/
def tkOf (k o t : Nat) (n : Int) (s : Bs) (p q : List (List Tk)) : List Tk :=
  if k = 1 then [nb n] else if k = 2 then [by_ n] else if k = 3 then [kw (if n = 1 then wTrue else wFalse)] else if k = 4 then [nm s] else if k = 9 then [kw wSize, nm s]
  else if k = 5 then [nm s, lb] ++ (p.getD 0 [] ++ [rb]) else if k = 6 then mk o :: q.getD 0 [] else if k = 8 then kw (wd t) :: q.getD 0 [] else q.getD 0 [] ++ mk o :: q.getD 1 []
mutual
def tkE : Ex → List Tk
  | .mk k o t n s l => tkOf k o t n s (tkL l) (opL l)
def tkL : List Ex → List (List Tk)
  | [] => []
  | x :: r => tkE x :: tkL r
def opL : List Ex → List (List Tk)
  | [] => []
  | .mk k o t n s l :: r => par k (tkE (.mk k o t n s l)) :: opL r
end
def opT (e : Ex) : List Tk := par e.k (tkE e)
theorem tkL_at : ∀ (l : List Ex) (i : Nat), i < l.length → (tkL l).getD i [] = tkE (l.getD i e0)
  | [], i, h => by simp at h
  | x :: r, 0, _ => by rw [tkL]; rfl
  | x :: r, i + 1, h => by rw [tkL]; simpa using tkL_at r i (by simpa using h)
theorem opL_at : ∀ (l : List Ex) (i : Nat), i < l.length → (opL l).getD i [] = opT (l.getD i e0)
  | [], i, h => by simp at h
  | .mk k o t n s l :: r, 0, _ => by rw [opL]; rfl
  | .mk k o t n s l :: r, i + 1, h => by rw [opL]; simpa using opL_at r i (by simpa using h)
theorem tkE_eq (e : Ex) : tkE e = tkOf e.k e.o e.t e.n e.s (tkL e.l) (opL e.l) := by cases e; rw [tkE]; rfl
def toksX (e : Ex) : List Tk × Int := if mayE e = true then (tkE e, 0) else ([], 2)
/-! ### Reading -/
/-- The i-th token without its place; none if there is none that exists. -/
def atB (l : List Tk) (i : Nat) : Tk := if may (l.getD i z0) = true then base (l.getD i z0) else z0
def findO (t : Tk) (a n : Nat) : Nat := ((List.range' a n).find? fun o => decide (t = mk o)).getD 0
abbrev Res := Except Int (Ex × Nat)
def namedF (R : Nat → Res) (top : Bool) (l : List Tk) (i : Nat) : Res :=
  if atB l (i + 1) = lb then (if top = true then .error 3 else match R (i + 2) with
    | .error e => .error e
    | .ok (y, to) => if atB l to = rb then .ok (.mk 5 0 0 0 (atB l i).tx [y], to + 1) else .error 100)
  else .ok (.mk 4 0 0 0 (atB l i).tx [], i + 1)
def takesF (R : Nat → Res) (top : Bool) (l : List Tk) (i : Nat) : Res :=
  if (atB l i).k = 3 then .ok (.mk 1 0 0 (atB l i).n [] [], i + 1)
  else if (atB l i).k = 4 then .ok (.mk 2 0 0 (atB l i).n [] [], i + 1)
  else if atB l i = kw wFalse then .ok (.mk 3 0 0 0 [] [], i + 1)
  else if atB l i = kw wTrue then .ok (.mk 3 0 0 1 [] [], i + 1)
  else if (atB l i).k = 1 then namedF R top l i
  else if atB l i = lp then (if top = true then .error 3 else match R (i + 1) with
    | .error e => .error e
    | .ok (x, to) => if atB l to = rp then .ok (x, to + 1) else .error 100)
  else .error 100
def typeOf (t : Tk) : Nat := if t = kw wInt then 1 else if t = kw wByte then 2 else if t = kw wBool then 3 else 0
def wrapF (r : Res) (f : Ex → Ex) : Res := match r with
  | .error e => .error e
  | .ok (y, to) => .ok (f y, to)
def pairF (T : Nat → Res) (l : List Tk) (a : Ex) (to : Nat) : Res :=
  if findO (atB l to) 1 22 = 0 then .ok (a, to) else wrapF (T (to + 1)) fun b => .mk 7 (findO (atB l to) 1 22) 0 0 [] [a, b]
def readsF (T : Nat → Res) (l : List Tk) (i : Nat) : Res :=
  if atB l i = kw wSize then (if (atB l (i + 1)).k = 1 then .ok (.mk 9 0 0 0 (atB l (i + 1)).tx [], i + 2) else .error 100)
  else if typeOf (atB l i) ≠ 0 then wrapF (T (i + 1)) fun y => .mk 8 0 (typeOf (atB l i)) 0 [] [y]
  else if findO (atB l i) 23 4 ≠ 0 then wrapF (T (i + 1)) fun y => .mk 6 (findO (atB l i) 23 4) 0 0 [] [y]
  else match T i with
    | .error e => .error e
    | .ok (a, to) => pairF T l a to
/-- An operand, with so many brackets still to be opened. -/
def tkN (l : List Tk) : Nat → Nat → Res
  | 0 => takesF (fun _ => .error 3) true l
  | d + 1 => takesF (readsF (tkN l d) l) false l
def rdN (l : List Tk) (d i : Nat) : Res := readsF (tkN l d) l i
def frontX (l : List Tk) : Ex × Nat × Int := match rdN l 32 0 with
  | .error e => (e0, 0, e)
  | .ok (x, n) => if mayE x = true then (x, n, 0) else (e0, 0, 3)
/-! ### Tokens at their places -/
theorem base_z (t : Tk) (h : t.a = 0) : base t = t := by cases t; unfold base; simp at h; rw [h]
theorem may_z : may z0 = false := rfl
theorem at_end {l : List Tk} {i : Nat} (h : l.length ≤ i) : atB l i = z0 := by
  unfold atB
  rw [List.getD_eq_getElem?_getD, List.getElem?_eq_none h]
  rfl
theorem at_lt {l : List Tk} {i : Nat} (h : atB l i ≠ z0) : i < l.length := by
  rcases Nat.lt_or_ge i l.length with h1 | h1
  · exact h1
  · exact absurd (at_end h1) h
theorem at_app (p r : List Tk) (x : Tk) (hm : may x = true) (ha : x.a = 0) : atB (p ++ x :: r) p.length = x := by
  have e : (p ++ x :: r).getD p.length z0 = x := by simp
  unfold atB
  rw [e, if_pos hm, base_z x ha]
theorem at_skip (p r : List Tk) (i : Nat) : atB (p ++ r) (p.length + i) = atB r i := by
  unfold atB
  have e : (p ++ r).getD (p.length + i) z0 = r.getD i z0 := by
    rw [List.getD_eq_getElem?_getD, List.getD_eq_getElem?_getD, List.getElem?_append_right (by omega)]
    congr 2
    omega
  rw [e]
theorem at_take {l : List Tk} {n i : Nat} (h : i < n) : atB (l.take n) i = atB l i := by
  unfold atB
  have e : (l.take n).getD i z0 = l.getD i z0 := by simp [List.getElem?_take, h]
  rw [e]
/-! ### The marks -/
def mkOk (o : Nat) : Bool := may (mk o) && (decide ((mk o).a = 0) && (decide ((mk o).k = 2) || decide ((mk o).k = 5)) && (!decide (mk o = lb) && (!decide (mk o = kw wSize) && (decide (typeOf (mk o) = 0) && (!decide (mk o = kw wFalse) && (!decide (mk o = kw wTrue) && !decide (mk o = lp)))))))
theorem mk_ok1 : ∀ o, o < 27 → 1 ≤ o → mkOk o = true := by decide
theorem mk_all {o : Nat} (h1 : 1 ≤ o) (h2 : o ≤ 26) : may (mk o) = true ∧ (mk o).a = 0 ∧ ((mk o).k = 2 ∨ (mk o).k = 5) ∧ mk o ≠ lb ∧ mk o ≠ kw wSize ∧ typeOf (mk o) = 0 ∧ mk o ≠ kw wFalse ∧ mk o ≠ kw wTrue ∧ mk o ≠ lp := by
  have h := mk_ok1 o (by omega) h1
  unfold mkOk at h
  simp only [Bool.and_eq_true, Bool.or_eq_true, Bool.not_eq_true', decide_eq_true_eq, decide_eq_false_iff_not] at h
  obtain ⟨a, ⟨b, c⟩, d, e, f, g, i, j⟩ := h
  exact ⟨a, b, c, d, e, f, g, i, j⟩
theorem mk_mon1 : ∀ o, o < 27 → 23 ≤ o → findO (mk o) 23 4 = o := by decide
theorem mk_mon {o : Nat} (h1 : 23 ≤ o) (h2 : o ≤ 26) : findO (mk o) 23 4 = o := mk_mon1 o (by omega) h1
theorem mk_dya1 : ∀ o, o < 23 → 1 ≤ o → findO (mk o) 1 22 = o := by decide
theorem mk_dya {o : Nat} (h1 : 1 ≤ o) (h2 : o ≤ 22) : findO (mk o) 1 22 = o := mk_dya1 o (by omega) h1
theorem find_z : findO z0 1 22 = 0 := by decide
theorem find_rb : findO rb 1 22 = 0 ∧ findO rp 1 22 = 0 := by decide
theorem find_none {t : Tk} {a n : Nat} (h : ∀ o, a ≤ o → o < a + n → t ≠ mk o) : findO t a n = 0 := by
  unfold findO
  cases hf : (List.range' a n).find? fun o => decide (t = mk o) with
  | none => rfl
  | some o =>
    have h1 := List.find?_some hf
    have h2 := List.mem_range'_1.1 (List.mem_of_find?_eq_some hf)
    exact absurd (of_decide_eq_true h1) (h o h2.1 h2.2)
theorem find_some {t : Tk} {a n o : Nat} (ha : 0 < a) (h : findO t a n = o) (ho : o ≠ 0) : a ≤ o ∧ o < a + n ∧ t = mk o := by
  unfold findO at h
  cases hf : (List.range' a n).find? fun o => decide (t = mk o) with
  | none => rw [hf] at h; exact absurd h.symm ho
  | some q =>
    rw [hf] at h
    have h : q = o := h
    subst h
    have h1 := List.find?_some hf
    have h2 := List.mem_range'_1.1 (List.mem_of_find?_eq_some hf)
    exact ⟨h2.1, h2.2, of_decide_eq_true h1⟩
end Go.Proofs.YtblckajejohlbaaDoor.L10
