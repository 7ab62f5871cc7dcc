/- Expressions of a kernel as trees: which are valid, registers, temporaries, which are safe, exchanged parts. Plain Lean. -/
import Derived.Laws.Closers25b
import Derived.WalkKit
import Derived.WalkSpells
import Derived.WalkLawsBesides
import Derived.Handy
import Derived.Laws.Shifts
import Derived.Lib.Hide
import Derived.Test.YtblckajejohlbaaDoorNum
import Derived.Test.YtblckajejohlbaaDoorFoa
import Derived.Test.YtblckajejohlbaaDoorKit
import Derived.Test.YtblckajejohlbaaDoorRows
set_option linter.unusedVariables false
set_option linter.unusedSimpArgs false
set_option linter.unusedVariables false
set_option linter.unusedSimpArgs false
namespace Go.Proofs.YtblckajejohlbaaDoor.L22
open Go

/-- A tree: kind (1 number, 2 variable, 3 element, 4 monadic, 5 dyadic, 6 conversion), operator, type, number, variable, parts. -/
inductive Kx where
  | mk (k o t : Nat) (n v : Int) (l : List Kx)
def Kx.k : Kx → Nat | .mk k _ _ _ _ _ => k
def Kx.o : Kx → Nat | .mk _ o _ _ _ _ => o
def Kx.t : Kx → Nat | .mk _ _ t _ _ _ => t
def Kx.n : Kx → Int | .mk _ _ _ n _ _ => n
def Kx.v : Kx → Int | .mk _ _ _ _ v _ => v
def Kx.l : Kx → List Kx | .mk _ _ _ _ _ l => l
def k0 : Kx := .mk 0 0 0 0 0 []
theorem Kx.eta (e : Kx) : e = .mk e.k e.o e.t e.n e.v e.l := by cases e; rfl
theorem Kx.ind {P : Kx → Prop} (h : ∀ e : Kx, (∀ x ∈ e.l, P x) → P e) : ∀ e, P e
  | .mk k o t n v l => h _ fun x hx => Kx.ind h x
termination_by e => SizeOf.sizeOf e
decreasing_by
  have h1 : x ∈ l := hx
  have := List.sizeOf_lt_of_mem h1
  simp
  omega
theorem memK {l : List Kx} {j : Nat} (hj : j < l.length) : l.getD j k0 ∈ l := by
  have e : l.getD j k0 = l[j] := by simp [hj]
  rw [e]; exact List.getElem_mem hj
theorem take_oneK {l : List Kx} {i : Nat} (h : i < l.length) : l.take (i + 1) = l.take i ++ [l.getD i k0] := by
  rw [List.take_succ_eq_append_getElem h]
  simp [h]
/-! ### Which are valid -/
def shX (e : Kx) : Bool :=
  if e.k = 1 then decide (e.o = 0) && decide (e.t = 0) && decide (e.v = 0) && decide (e.l.length = 0)
  else if e.k = 2 then decide (e.o = 0) && decide (e.t = 0) && decide (e.n = 0) && decide (0 ≤ e.v) && decide (e.v ≤ 255) && decide (e.l.length = 0)
  else if e.k = 3 then decide (e.o = 0) && decide (e.t = 0) && decide (e.n = 0) && decide (0 ≤ e.v) && decide (e.v ≤ 255) && decide (e.l.length = 1)
  else if e.k = 4 then decide (23 ≤ e.o) && decide (e.o ≤ 26) && decide (e.t = 0) && decide (e.n = 0) && decide (e.v = 0) && decide (e.l.length = 1)
  else if e.k = 5 then decide (1 ≤ e.o) && decide (e.o ≤ 22) && decide (e.t = 0) && decide (e.n = 0) && decide (e.v = 0) && decide (e.l.length = 2)
  else if e.k = 6 then decide (e.o = 0) && decide (1 ≤ e.t) && decide (e.t ≤ 3) && decide (e.n = 0) && decide (e.v = 0) && decide (e.l.length = 1)
  else false
mutual
def szX : Kx → Nat
  | .mk _ _ _ _ _ l => 1 + szK l
def szK : List Kx → Nat
  | [] => 0
  | x :: r => szX x + szK r
end
mutual
def dpX : Kx → Nat
  | .mk _ _ _ _ _ l => 1 + dpK l
def dpK : List Kx → Nat
  | [] => 0
  | x :: r => max (dpX x) (dpK r)
end
mutual
/-- The fields of all are as their kinds say. -/
def okX : Kx → Bool
  | .mk k o t n v l => shX (.mk k o t n v l) && okK l
def okK : List Kx → Bool
  | [] => true
  | x :: r => okX x && okK r
end
theorem szX_eq (e : Kx) : szX e = 1 + szK e.l := by cases e; rw [szX]; rfl
theorem dpX_eq (e : Kx) : dpX e = 1 + dpK e.l := by cases e; rw [dpX]; rfl
theorem okX_eq (e : Kx) : okX e = (shX e && okK e.l) := by cases e; rw [okX]; rfl
theorem szX_pos (e : Kx) : 1 ≤ szX e := by rw [szX_eq]; omega
theorem dpX_pos (e : Kx) : 1 ≤ dpX e := by rw [dpX_eq]; omega
theorem szK_app (a b : List Kx) : szK (a ++ b) = szK a + szK b := by
  induction a with
  | nil => simp [szK]
  | cons x a ih => rw [List.cons_append, szK, szK, ih]; omega
theorem szK_take {l : List Kx} {i : Nat} (h : i < l.length) : szK (l.take (i + 1)) = szK (l.take i) + szX (l.getD i k0) := by
  rw [take_oneK h, szK_app]; simp [szK]
theorem dpK_app (a b : List Kx) : dpK (a ++ b) = max (dpK a) (dpK b) := by
  induction a with
  | nil => simp [dpK]
  | cons x a ih => rw [List.cons_append, dpK, dpK, ih]; omega
theorem dpK_take {l : List Kx} {i : Nat} (h : i < l.length) : dpK (l.take (i + 1)) = max (dpK (l.take i)) (dpX (l.getD i k0)) := by
  rw [take_oneK h, dpK_app]; simp [dpK]
theorem dpK_mem {l : List Kx} {x : Kx} (h : x ∈ l) : dpX x ≤ dpK l := by
  induction l with
  | nil => cases h
  | cons y r ih =>
    rw [dpK]
    rcases List.mem_cons.1 h with rfl | h
    · omega
    · have := ih h; omega
theorem szK_mem {l : List Kx} {x : Kx} (h : x ∈ l) : szX x ≤ szK l := by
  induction l with
  | nil => cases h
  | cons y r ih =>
    rw [szK]
    rcases List.mem_cons.1 h with rfl | h
    · omega
    · have := ih h; omega
theorem okK_mem {l : List Kx} (h : okK l = true) {x : Kx} (hx : x ∈ l) : okX x = true := by
  induction l with
  | nil => cases hx
  | cons y r ih =>
    rw [okK, Bool.and_eq_true] at h
    rcases List.mem_cons.1 hx with rfl | hx
    · exact h.1
    · exact ih h.2 hx
theorem okK_all {l : List Kx} (h : ∀ x ∈ l, okX x = true) : okK l = true := by
  induction l with
  | nil => rw [okK]
  | cons y r ih => rw [okK, h y (List.mem_cons_self ..), ih fun x hx => h x (List.mem_cons_of_mem _ hx)]; rfl
theorem okK_not {l : List Kx} {i : Nat} (hi : i < l.length) (h : okX (l.getD i k0) = false) : okK l = false := by
  cases hk : okK l with
  | false => rfl
  | true => rw [okK_mem hk (memK hi)] at h; cases h
/-- Valid within so many, so many deep. -/
def fitX (e : Kx) (room deep : Nat) : Bool := okX e && (decide (dpX e ≤ deep) && decide (szX e ≤ room))
def mayX (e : Kx) : Bool := fitX e 256 32
theorem fit_iff {e : Kx} {r d : Nat} : fitX e r d = true ↔ okX e = true ∧ dpX e ≤ d ∧ szX e ≤ r := by
  unfold fitX
  rw [Bool.and_eq_true, Bool.and_eq_true, decide_eq_true_eq, decide_eq_true_eq]
theorem may_iff {e : Kx} : mayX e = true ↔ okX e = true ∧ dpX e ≤ 32 ∧ szX e ≤ 256 := fit_iff
/-- What the look answers: how many, or -1. -/
def lkX (e : Kx) (room deep : Nat) : Int := if fitX e room deep = true then (szX e : Int) else -1
theorem may_lk (e : Kx) : decide (0 < lkX e 256 32) = mayX e := by
  unfold lkX mayX
  cases h : fitX e 256 32 with
  | true => have := szX_pos e; rw [if_pos rfl]; exact decide_eq_true (by omega)
  | false => rw [if_neg (by simp)]; rfl
theorem fit_first {e : Kx} {r d : Nat} (h : r < 1 ∨ d < 1 ∨ shX e = false) : fitX e r d = false := by
  cases hf : fitX e r d with
  | false => rfl
  | true =>
    obtain ⟨h1, h2, h3⟩ := fit_iff.1 hf
    rw [okX_eq, Bool.and_eq_true] at h1
    have := szX_pos e
    have := dpX_pos e
    rcases h with h | h | h
    · omega
    · omega
    · rw [h] at h1; cases h1.1
/-- The parts up to i have been found to fit. -/
def upto (e : Kx) (r d i : Nat) : Prop := (∀ j, j < i → okX (e.l.getD j k0) = true ∧ dpX (e.l.getD j k0) ≤ d) ∧ 1 + szK (e.l.take i) ≤ r
theorem upto_zero {e : Kx} {r d : Nat} (h : 1 ≤ r) : upto e r d 0 := ⟨fun j hj => absurd hj (by omega), by simp [szK]; exact h⟩
theorem upto_next {e : Kx} {r d i : Nat} (h : upto e r d i) (hi : i < e.l.length) (hf : fitX (e.l.getD i k0) (r - (1 + szK (e.l.take i))) d = true) : upto e r d (i + 1) := by
  obtain ⟨h1, h2, h3⟩ := fit_iff.1 hf
  refine ⟨fun j hj => ?_, ?_⟩
  · by_cases hji : j = i
    · subst hji; exact ⟨h1, h2⟩
    · exact h.1 j (by omega)
  · rw [szK_take hi]; have := h.2; omega
theorem upto_end {e : Kx} {r d : Nat} (h : upto e r d e.l.length) (hs : shX e = true) : fitX e r (d + 1) = true := by
  refine fit_iff.2 ⟨?_, ?_, ?_⟩
  · rw [okX_eq, hs, Bool.true_and]
    refine okK_all fun x hx => ?_
    obtain ⟨j, hj, rfl⟩ := List.getElem_of_mem hx
    have := (h.1 j hj).1
    simpa [hj] using this
  · rw [dpX_eq]
    have key : ∀ i, i ≤ e.l.length → dpK (e.l.take i) ≤ d := by
      intro i
      induction i with
      | zero => intro _; simp [dpK]
      | succ i ih => intro hi; rw [dpK_take (by omega)]; have := ih (by omega); have := (h.1 i (by omega)).2; omega
    have := key e.l.length (Nat.le_refl _)
    rw [List.take_length] at this
    omega
  · have := h.2
    rw [List.take_length] at this
    rw [szX_eq]; exact this
theorem upto_fail {e : Kx} {r d i : Nat} (hi : i < e.l.length) (hf : fitX (e.l.getD i k0) (r - (1 + szK (e.l.take i))) d = false) : fitX e r (d + 1) = false := by
  cases hk : fitX e r (d + 1) with
  | false => rfl
  | true =>
    exfalso
    obtain ⟨h1, h2, h3⟩ := fit_iff.1 hk
    rw [okX_eq, Bool.and_eq_true] at h1
    rw [dpX_eq] at h2
    rw [szX_eq] at h3
    have m := memK hi
    have a := okK_mem h1.2 m
    have b := dpK_mem m
    have c : szK (e.l.take i) + szX (e.l.getD i k0) ≤ szK e.l := by
      rw [← szK_take hi]
      have := szK_app (e.l.take (i + 1)) (e.l.drop (i + 1))
      rw [List.take_append_drop] at this
      omega
    have : fitX (e.l.getD i k0) (r - (1 + szK (e.l.take i))) d = true := fit_iff.2 ⟨a, by omega, by omega⟩
    rw [hf] at this
    cases this
/-! ### Registers, temporaries, safe ones -/
def rgO (k o t : Nat) (l : List Nat) : Nat :=
  if l.length = 0 then 1
  else if k ≠ 5 then (if (k = 4 ∧ (o = 25 ∨ o = 26)) ∨ (k = 6 ∧ t = 1) then l.getD 0 0 else max (l.getD 0 0) 2)
  else if o ≠ 20 ∧ o ≠ 21 ∧ l.getD 0 0 = l.getD 1 0 then min (l.getD 0 0 + 1) 3 else max (l.getD 0 0) (l.getD 1 0)
mutual
def rgX : Kx → Nat
  | .mk k o t _ _ l => rgO k o t (rgK l)
def rgK : List Kx → List Nat
  | [] => []
  | x :: r => rgX x :: rgK r
end
theorem rgX_eq (e : Kx) : rgX e = rgO e.k e.o e.t (rgK e.l) := by cases e; rw [rgX]; rfl
theorem rgK_map (l : List Kx) : rgK l = l.map rgX := by
  induction l with
  | nil => rw [rgK]; rfl
  | cons x r ih => rw [rgK, ih]; rfl
theorem rgK_len (l : List Kx) : (rgK l).length = l.length := by rw [rgK_map, List.length_map]
def spX (e : Kx) : Bool := decide (e.k = 5) && (decide (e.o ≠ 20) && (decide (e.o ≠ 21) && (decide (rgX (e.l.getD 0 k0) = 3) && decide (rgX (e.l.getD 1 k0) = 3))))
def tpO (k o : Nat) (g l : List Nat) : Nat :=
  if l.length = 0 then 0
  else if l.length = 1 then l.getD 0 0
  else if k = 5 ∧ o ≠ 20 ∧ o ≠ 21 ∧ g.getD 0 0 = 3 ∧ g.getD 1 0 = 3 then max (l.getD 1 0) (l.getD 0 0 + 1)
  else max (l.getD 0 0) (l.getD 1 0)
mutual
def tpX : Kx → Nat
  | .mk k o _ _ _ l => tpO k o (rgK l) (tpK l)
def tpK : List Kx → List Nat
  | [] => []
  | x :: r => tpX x :: tpK r
end
theorem tpX_eq (e : Kx) : tpX e = tpO e.k e.o (rgK e.l) (tpK e.l) := by cases e; rw [tpX]; rfl
theorem tpK_map (l : List Kx) : tpK l = l.map tpX := by
  induction l with
  | nil => rw [tpK]; rfl
  | cons x r ih => rw [tpK, ih]; rfl
/-- Can it have no fault of its own? -/
def suO (k o t : Nat) : Bool :=
  if k = 1 ∨ k = 2 then true
  else if k = 4 then decide (o ≠ 23)
  else if k = 5 then decide (6 ≤ o)
  else if k = 6 then decide (t = 1)
  else false
mutual
def sfX : Kx → Bool
  | .mk k o t _ _ l => sfK l && suO k o t
def sfK : List Kx → Bool
  | [] => true
  | x :: r => sfX x && sfK r
end
theorem sfX_eq (e : Kx) : sfX e = (sfK e.l && suO e.k e.o e.t) := by cases e; rw [sfX]; rfl
theorem sfK_mem {l : List Kx} (h : sfK l = true) {x : Kx} (hx : x ∈ l) : sfX x = true := by
  induction l with
  | nil => cases hx
  | cons y r ih =>
    rw [sfK, Bool.and_eq_true] at h
    rcases List.mem_cons.1 hx with rfl | hx
    · exact h.1
    · exact ih h.2 hx
theorem sfK_all {l : List Kx} (h : ∀ x ∈ l, sfX x = true) : sfK l = true := by
  induction l with
  | nil => rw [sfK]
  | cons y r ih => rw [sfK, h y (List.mem_cons_self ..), ih fun x hx => h x (List.mem_cons_of_mem _ hx)]; rfl
theorem sfK_not {l : List Kx} {i : Nat} (hi : i < l.length) (h : sfX (l.getD i k0) = false) : sfK l = false := by
  cases hk : sfK l with
  | false => rfl
  | true => rw [sfK_mem hk (memK hi)] at h; cases h
theorem sfK_end {l : List Kx} (h : ∀ j, j < l.length → sfX (l.getD j k0) = true) : sfK l = true := by
  refine sfK_all fun x hx => ?_
  obtain ⟨j, hj, rfl⟩ := List.getElem_of_mem hx
  have := h j hj
  simpa [hj] using this
/-! ### What the functions answer -/
def DepX (e : Kx) : Nat := if mayX e = true then rgX e else 0
def TmpX (e : Kx) : Nat := if mayX e = true then tpX e else 0
def SafX (e : Kx) : Bool := mayX e && sfX e
/-! ### Valid trees have this many parts -/
theorem ok_sh {e : Kx} (h : okX e = true) : shX e = true := by rw [okX_eq, Bool.and_eq_true] at h; exact h.1
theorem ok_parts {e : Kx} (h : okX e = true) : okK e.l = true := by rw [okX_eq, Bool.and_eq_true] at h; exact h.2
theorem sh_len {e : Kx} (h : shX e = true) : (e.l.length = 0 ∧ (e.k = 1 ∨ e.k = 2)) ∨ (e.l.length = 1 ∧ (e.k = 3 ∨ e.k = 4 ∨ e.k = 6)) ∨ (e.l.length = 2 ∧ e.k = 5) := by
  unfold shX at h
  by_cases h1 : e.k = 1
  · rw [if_pos h1] at h; simp only [Bool.and_eq_true, decide_eq_true_eq] at h; omega
  rw [if_neg h1] at h
  by_cases h2 : e.k = 2
  · rw [if_pos h2] at h; simp only [Bool.and_eq_true, decide_eq_true_eq] at h; omega
  rw [if_neg h2] at h
  by_cases h3 : e.k = 3
  · rw [if_pos h3] at h; simp only [Bool.and_eq_true, decide_eq_true_eq] at h; omega
  rw [if_neg h3] at h
  by_cases h4 : e.k = 4
  · rw [if_pos h4] at h; simp only [Bool.and_eq_true, decide_eq_true_eq] at h; omega
  rw [if_neg h4] at h
  by_cases h5 : e.k = 5
  · rw [if_pos h5] at h; simp only [Bool.and_eq_true, decide_eq_true_eq] at h; omega
  rw [if_neg h5] at h
  by_cases h6 : e.k = 6
  · rw [if_pos h6] at h; simp only [Bool.and_eq_true, decide_eq_true_eq] at h; omega
  rw [if_neg h6] at h
  cases h
theorem len0 {l : List Kx} (h : l.length = 0) : l = [] := by cases l with | nil => rfl | cons x r => simp at h
theorem len1 {l : List Kx} (h : l.length = 1) : ∃ a, l = [a] := by
  match l, h with
  | [a], _ => exact ⟨a, rfl⟩
theorem len2 {l : List Kx} (h : l.length = 2) : ∃ a b, l = [a, b] := by
  match l, h with
  | [a, b], _ => exact ⟨a, b, rfl⟩
/-- From 1 to 3. -/
theorem rg_rng : ∀ e : Kx, okX e = true → 1 ≤ rgX e ∧ rgX e ≤ 3 := by
  refine Kx.ind fun e ih ok => ?_
  have sh := sh_len (ok_sh ok)
  have okl := ok_parts ok
  have hx : ∀ x ∈ e.l, 1 ≤ rgX x ∧ rgX x ≤ 3 := fun x hx => ih x hx (okK_mem okl hx)
  rw [rgX_eq, rgK_map]
  rcases sh with ⟨h, _⟩ | ⟨h, hk⟩ | ⟨h, hk⟩
  · rw [len0 h]; unfold rgO; rw [if_pos (show (List.map rgX []).length = 0 from rfl)]; omega
  · obtain ⟨a, ha⟩ := len1 h
    have := hx a (by rw [ha]; exact List.mem_cons_self ..)
    rw [ha]
    unfold rgO
    rw [if_neg (by simp), if_pos (show e.k ≠ 5 by omega)]
    simp only [List.map_cons, List.map_nil, List.getD_cons_zero]
    split <;> omega
  · obtain ⟨a, b, ha⟩ := len2 h
    have := hx a (by rw [ha]; exact List.mem_cons_self ..)
    have := hx b (by rw [ha]; exact List.mem_cons_of_mem _ (List.mem_cons_self ..))
    rw [ha]
    unfold rgO
    rw [if_neg (by simp), if_neg (show ¬ e.k ≠ 5 by omega)]
    simp only [List.map_cons, List.map_nil, List.getD_cons_zero, List.getD_cons_succ]
    split <;> omega
end Go.Proofs.YtblckajejohlbaaDoor.L22
/- The value of an expression of a kernel in a store; what the laws of stage 17 say of it. Plain Lean. -/
set_option linter.unusedVariables false
set_option linter.unusedSimpArgs false
namespace Go.Proofs.YtblckajejohlbaaDoor.L17
open Go L22 L14

abbrev St := List (List Int)
/-- The element i of the list v. -/
def atS (s : St) (v i : Int) : Option Int :=
  if 0 ≤ v ∧ v < (s.length : Int) ∧ 0 ≤ i ∧ i < ((s.getD v.toNat []).length : Int) then some ((s.getD v.toNat []).getD i.toNat 0) else none
def decO (o : Nat) (a : Int) : Bool := (decide (o = 20) && decide (a = 0)) || (decide (o = 21) && decide (a = 1))
def vlO (s : St) (k o t : Nat) (n v : Int) (vs : List (Option Int)) : Option Int :=
  if k = 1 then some n else if k = 2 then atS s v 0
  else match vs.getD 0 none with
    | none => none
    | some a => if k = 3 then atS s v a else if k = 4 then apO o a 0 else if k = 6 then conO t a
      else if decO o a = true then some a else match vs.getD 1 none with
        | none => none
        | some b => apO o a b
mutual
def vlX (s : St) : Kx → Option Int
  | .mk k o t n v l => vlO s k o t n v (vlK s l)
def vlK (s : St) : List Kx → List (Option Int)
  | [] => []
  | x :: r => vlX s x :: vlK s r
end
theorem vlX_eq (s : St) (e : Kx) : vlX s e = vlO s e.k e.o e.t e.n e.v (vlK s e.l) := by cases e; rw [vlX]; rfl
theorem vlK_map (s : St) (l : List Kx) : vlK s l = l.map (vlX s) := by
  induction l with
  | nil => rw [vlK]; rfl
  | cons x r ih => rw [vlK, ih]; rfl
def valK (s : St) (e : Kx) : Option Int := if mayX e = true then vlX s e else none
theorem valK_no {s : St} {e : Kx} (h : mayX e = false) : valK s e = none := by unfold valK; rw [h]; rfl
theorem valK_is {s : St} {e : Kx} (h : mayX e = true) : valK s e = vlX s e := by unfold valK; rw [if_pos h]
/-! ### Kind by kind -/
theorem vl_1 (s : St) {e : Kx} (h : e.k = 1) : vlX s e = some e.n := by rw [vlX_eq]; unfold vlO; rw [if_pos h]
theorem vl_2 (s : St) {e : Kx} (h : e.k = 2) : vlX s e = atS s e.v 0 := by rw [vlX_eq]; unfold vlO; rw [if_neg (by omega), if_pos h]
theorem vl_g0 {s : St} {l : List Kx} {i : Nat} (h : i < l.length) : (vlK s l).getD i none = vlX s (l.getD i k0) := by
  rw [vlK_map]
  simp [h]
theorem vl_none (s : St) {e : Kx} (h : e.k ≠ 1) (h2 : e.k ≠ 2) (hl : 0 < e.l.length) (ha : vlX s (e.l.getD 0 k0) = none) : vlX s e = none := by
  rw [vlX_eq]; unfold vlO; rw [if_neg h, if_neg h2, vl_g0 hl, ha]
theorem vl_3 (s : St) {e : Kx} (h : e.k = 3) (hl : 0 < e.l.length) {a : Int} (ha : vlX s (e.l.getD 0 k0) = some a) : vlX s e = atS s e.v a := by
  rw [vlX_eq]; unfold vlO; rw [if_neg (by omega), if_neg (by omega), vl_g0 hl, ha]
  show (if e.k = 3 then _ else _) = _
  rw [if_pos h]
theorem vl_4 (s : St) {e : Kx} (h : e.k = 4) (hl : 0 < e.l.length) {a : Int} (ha : vlX s (e.l.getD 0 k0) = some a) : vlX s e = apO e.o a 0 := by
  rw [vlX_eq]; unfold vlO; rw [if_neg (by omega), if_neg (by omega), vl_g0 hl, ha]
  show (if e.k = 3 then _ else if e.k = 4 then _ else _) = _
  rw [if_neg (by omega), if_pos h]
theorem vl_6 (s : St) {e : Kx} (h : e.k = 6) (hl : 0 < e.l.length) {a : Int} (ha : vlX s (e.l.getD 0 k0) = some a) : vlX s e = conO e.t a := by
  rw [vlX_eq]; unfold vlO; rw [if_neg (by omega), if_neg (by omega), vl_g0 hl, ha]
  show (if e.k = 3 then _ else if e.k = 4 then _ else if e.k = 6 then _ else _) = _
  rw [if_neg (by omega), if_neg (by omega), if_pos h]
theorem vl_5d (s : St) {e : Kx} (h : e.k = 5) (hl : 0 < e.l.length) {a : Int} (ha : vlX s (e.l.getD 0 k0) = some a) (hd : decO e.o a = true) : vlX s e = some a := by
  rw [vlX_eq]; unfold vlO; rw [if_neg (by omega), if_neg (by omega), vl_g0 hl, ha]
  show (if e.k = 3 then _ else if e.k = 4 then _ else if e.k = 6 then _ else if decO e.o a = true then _ else _) = _
  rw [if_neg (by omega), if_neg (by omega), if_neg (by omega), if_pos hd]
theorem vl_5n (s : St) {e : Kx} (h : e.k = 5) (hl : 1 < e.l.length) {a : Int} (ha : vlX s (e.l.getD 0 k0) = some a) (hd : decO e.o a = false) (hb : vlX s (e.l.getD 1 k0) = none) : vlX s e = none := by
  rw [vlX_eq]; unfold vlO; rw [if_neg (by omega), if_neg (by omega), vl_g0 (by omega), ha]
  show (if e.k = 3 then _ else if e.k = 4 then _ else if e.k = 6 then _ else if decO e.o a = true then _ else _) = _
  rw [if_neg (by omega), if_neg (by omega), if_neg (by omega), if_neg (by rw [hd]; simp), vl_g0 hl, hb]
theorem vl_5 (s : St) {e : Kx} (h : e.k = 5) (hl : 1 < e.l.length) {a b : Int} (ha : vlX s (e.l.getD 0 k0) = some a) (hd : decO e.o a = false) (hb : vlX s (e.l.getD 1 k0) = some b) : vlX s e = apO e.o a b := by
  rw [vlX_eq]; unfold vlO; rw [if_neg (by omega), if_neg (by omega), vl_g0 (by omega), ha]
  show (if e.k = 3 then _ else if e.k = 4 then _ else if e.k = 6 then _ else if decO e.o a = true then _ else _) = _
  rw [if_neg (by omega), if_neg (by omega), if_neg (by omega), if_neg (by rw [hd]; simp), vl_g0 hl, hb]
/-! ### Words -/
def stW (s : St) : Prop := ∀ l ∈ s, ∀ x ∈ l, inW x
theorem getD_mem_or {α : Type} (l : List α) (d : α) (i : Nat) : l.getD i d ∈ l ∨ l.getD i d = d := by
  by_cases h : i < l.length
  · left; rw [List.getD_eq_getElem?_getD, List.getElem?_eq_getElem h]; exact List.getElem_mem h
  · right; rw [List.getD_eq_getElem?_getD, List.getElem?_eq_none (by omega)]; rfl
theorem at_w {s : St} (hs : stW s) {v i x : Int} (h : atS s v i = some x) : inW x := by
  unfold atS at h
  split at h
  · rename_i hc
    injection h with h
    subst h
    rcases getD_mem_or (s.getD v.toNat []) 0 i.toNat with h1 | h1
    · rcases getD_mem_or s [] v.toNat with h2 | h2
      · exact hs _ h2 _ h1
      · rw [h2] at h1; cases h1
    · rw [h1]; unfold inW; omega
  · cases h
theorem b01_w (p : Bool) : inW (b01 p) := by unfold inW b01; split <;> omega
theorem w32_w (x : Int) : inW (w32 x) := by unfold inW w32; omega
theorem fit_w {x y : Int} (h : fitO x = some y) : inW y := by
  unfold fitO at h
  split at h
  · injection h with h; subst h; assumption
  · cases h
theorem con_w {t : Nat} {x y : Int} (hx : inW x) (h : conO t x = some y) : inW y := by
  unfold conO at h
  split at h
  · injection h with h; subst h; exact hx
  · cases h
theorem con_is {t : Nat} {x y : Int} (h : conO t x = some y) : y = x := by
  unfold conO at h
  split at h
  · injection h with h; exact h.symm
  · cases h
/-! ### Variables that do not occur -/
mutual
def usX (k : Int) : Kx → Bool
  | .mk j _ _ _ v l => (decide (j = 2 ∨ j = 3) && decide (v = k)) || usK k l
def usK (k : Int) : List Kx → Bool
  | [] => false
  | x :: r => usX k x || usK k r
end
theorem usX_eq (k : Int) (e : Kx) : usX k e = ((decide (e.k = 2 ∨ e.k = 3) && decide (e.v = k)) || usK k e.l) := by cases e; rw [usX]; rfl
theorem usK_not {k : Int} {l : List Kx} (h : usK k l = false) {x : Kx} (hx : x ∈ l) : usX k x = false := by
  induction l with
  | nil => cases hx
  | cons y r ih =>
    rw [usK, Bool.or_eq_false_iff] at h
    rcases List.mem_cons.1 hx with rfl | hx
    · exact h.1
    · exact ih h.2 hx
theorem usK_yes {k : Int} {l : List Kx} {x : Kx} (hx : x ∈ l) (h : usX k x = true) : usK k l = true := by
  cases hk : usK k l with
  | true => rfl
  | false => rw [usK_not hk hx] at h; cases h
theorem usK_all {k : Int} {l : List Kx} (h : ∀ j, j < l.length → usX k (l.getD j k0) = false) : usK k l = false := by
  induction l with
  | nil => rw [usK]
  | cons y r ih =>
    rw [usK, Bool.or_eq_false_iff]
    exact ⟨by simpa using h 0 (by simp), ih fun j hj => by simpa using h (j + 1) (by simp; omega)⟩
theorem at_other {s : St} {k v : Nat} (l : List Int) (h : v ≠ k) (i : Int) : atS (s.set k l) (v : Int) i = atS s (v : Int) i := by
  unfold atS
  have e : (s.set k l).getD v [] = s.getD v [] := by
    rw [List.getD_eq_getElem?_getD, List.getD_eq_getElem?_getD, List.getElem?_set_ne (by omega)]
  rw [Int.toNat_natCast, e, List.length_set]
theorem at_neg {s : St} {v : Int} (h : v < 0) (i : Int) : atS s v i = none := by
  unfold atS; rw [if_neg (by omega)]
theorem at_set {s : St} {k : Nat} (l : List Int) {v : Int} (h : v ≠ (k : Int)) (i : Int) : atS (s.set k l) v i = atS s v i := by
  by_cases hv : v < 0
  · rw [at_neg hv, at_neg hv]
  · obtain ⟨m, rfl⟩ : ∃ m : Nat, v = (m : Int) := ⟨v.toNat, by omega⟩
    exact at_other l (by omega) i
theorem vl_set (s : St) (k : Nat) (l : List Int) : ∀ e : Kx, usX (k : Int) e = false → vlX (s.set k l) e = vlX s e := by
  refine Kx.ind fun e ih h => ?_
  rw [usX_eq, Bool.or_eq_false_iff] at h
  have hk : vlK (s.set k l) e.l = vlK s e.l := by
    rw [vlK_map, vlK_map]
    exact List.map_congr_left fun x hx => ih x hx (usK_not h.2 hx)
  rw [vlX_eq, vlX_eq, hk]
  unfold vlO
  by_cases h1 : e.k = 1
  · rw [if_pos h1, if_pos h1]
  rw [if_neg h1, if_neg h1]
  by_cases h2 : e.k = 2
  · rw [if_pos h2, if_pos h2]
    have : e.v ≠ (k : Int) := by
      intro hv
      have := h.1
      rw [decide_eq_true (show e.k = 2 ∨ e.k = 3 from .inl h2), decide_eq_true hv] at this
      cases this
    exact at_set l this 0
  rw [if_neg h2, if_neg h2]
  cases (vlK s e.l).getD 0 none with
  | none => rfl
  | some a =>
    show (if e.k = 3 then _ else _) = (if e.k = 3 then _ else _)
    by_cases h3 : e.k = 3
    · rw [if_pos h3, if_pos h3]
      have : e.v ≠ (k : Int) := by
        intro hv
        have := h.1
        rw [decide_eq_true (show e.k = 2 ∨ e.k = 3 from .inr h3), decide_eq_true hv] at this
        cases this
      exact at_set l this a
    · rw [if_neg h3, if_neg h3]
theorem val_set {s : St} {k : Nat} {l : List Int} {e : Kx} (h : usX (k : Int) e = false) : valK (s.set k l) e = valK s e := by
  unfold valK
  rw [vl_set s k l e h]
/-! ### Put -/
def hasS (s : St) (v i : Int) : Bool := decide (0 ≤ v ∧ v < (s.length : Int) ∧ 0 ≤ i ∧ i < ((s.getD v.toNat []).length : Int))
def putS (s : St) (v i x : Int) : St := if hasS s v i = true then s.set v.toNat ((s.getD v.toNat []).set i.toNat x) else s
theorem at_has (s : St) (v i : Int) : atS s v i = if hasS s v i = true then some ((s.getD v.toNat []).getD i.toNat 0) else none := by
  unfold atS hasS
  by_cases h : 0 ≤ v ∧ v < (s.length : Int) ∧ 0 ≤ i ∧ i < ((s.getD v.toNat []).length : Int)
  · rw [if_pos h, if_pos (decide_eq_true h)]
  · rw [if_neg h, if_neg (by rw [decide_eq_false h]; simp)]
theorem has_some (s : St) (v i : Int) : (atS s v i).isSome = hasS s v i := by
  rw [at_has]
  cases hasS s v i <;> rfl
theorem put_len (s : St) (v i x : Int) : (putS s v i x).length = s.length := by
  unfold putS; split
  · rw [List.length_set]
  · rfl
theorem has_nat {s : St} {k j : Nat} (hk : k < s.length) (hj : j < (s.getD k []).length) : hasS s (k : Int) (j : Int) = true := by
  unfold hasS
  rw [Int.toNat_natCast]
  exact decide_eq_true ⟨by omega, by omega, by omega, by omega⟩
theorem put_nat {s : St} {k j : Nat} (hk : k < s.length) (hj : j < (s.getD k []).length) (x : Int) : putS s (k : Int) (j : Int) x = s.set k ((s.getD k []).set j x) := by
  unfold putS
  rw [if_pos (has_nat hk hj), Int.toNat_natCast, Int.toNat_natCast]
theorem put_none {s : St} {k : Nat} {i : Int} (hk : (s.getD k []).length = 0) (x : Int) : putS s (k : Int) i x = s := by
  unfold putS
  rw [if_neg]
  unfold hasS
  rw [Int.toNat_natCast, hk, decide_eq_false (by omega)]
  simp
theorem getD_set_self {α : Type} {l : List α} {k : Nat} (h : k < l.length) (x d : α) : (l.set k x).getD k d = x := by
  rw [List.getD_eq_getElem?_getD, List.getElem?_set_self h]; rfl
theorem getD_set_ne {α : Type} {l : List α} {k j : Nat} (h : j ≠ k) (x d : α) : (l.set k x).getD j d = l.getD j d := by
  rw [List.getD_eq_getElem?_getD, List.getD_eq_getElem?_getD, List.getElem?_set_ne (by omega)]
theorem at_put {s : St} {k j : Nat} (hk : k < s.length) (hj : j < (s.getD k []).length) (x : Int) {a b : Nat} (ha : a < s.length) (hb : b < (s.getD a []).length) :
    atS (putS s (k : Int) (j : Int) x) (a : Int) (b : Int) = some (if a = k ∧ b = j then x else (s.getD a []).getD b 0) := by
  rw [put_nat hk hj]
  by_cases hak : a = k
  · subst hak
    have e : ((s.set a ((s.getD a []).set j x)).getD a []) = (s.getD a []).set j x := getD_set_self hk _ _
    rw [at_has, if_pos (has_nat (by rw [List.length_set]; exact hk) (by rw [e, List.length_set]; exact hb)), Int.toNat_natCast, Int.toNat_natCast, e]
    by_cases hbj : b = j
    · subst hbj
      rw [getD_set_self hb, if_pos ⟨rfl, rfl⟩]
    · rw [getD_set_ne hbj, if_neg fun h => hbj h.2]
  · have e : ((s.set k ((s.getD k []).set j x)).getD a []) = s.getD a [] := getD_set_ne hak _ _
    rw [at_has, if_pos (has_nat (by rw [List.length_set]; exact ha) (by rw [e]; exact hb)), Int.toNat_natCast, Int.toNat_natCast, e, if_neg fun h => hak h.1]
theorem set_self {α : Type} {l : List α} {k : Nat} (d : α) (h : k < l.length) : l.set k (l.getD k d) = l := by
  apply List.ext_getElem?
  intro i
  by_cases hi : i = k
  · subst hi
    rw [List.getElem?_set_self h, List.getElem?_eq_getElem h, List.getD_eq_getElem?_getD, List.getElem?_eq_getElem h]; rfl
  · rw [List.getElem?_set_ne (by omega)]
theorem put_back {s : St} {k j : Nat} (hk : k < s.length) (hj : j < (s.getD k []).length) (x : Int) : putS (putS s (k : Int) (j : Int) x) (k : Int) (j : Int) ((s.getD k []).getD j 0) = s := by
  rw [put_nat hk hj]
  have e : ((s.set k ((s.getD k []).set j x)).getD k []) = (s.getD k []).set j x := getD_set_self hk _ _
  rw [put_nat (by rw [List.length_set]; exact hk) (by rw [e, List.length_set]; exact hj), e, List.set_set, List.set_set, set_self 0 hj, set_self [] hk]
theorem put_same {s : St} {k j : Nat} (hk : k < s.length) (hj : j < (s.getD k []).length) (x : Int) : putS s (k : Int) (j : Int) x = s ↔ (s.getD k []).getD j 0 = x := by
  rw [put_nat hk hj]
  constructor
  · intro h
    have e : (s.set k ((s.getD k []).set j x)).getD k [] = s.getD k [] := by rw [h]
    rw [getD_set_self hk] at e
    rw [← e, getD_set_self hj]
  · rintro rfl
    rw [set_self 0 hj, set_self [] hk]
/-! ### De Morgan -/
def k2 (o : Nat) (a b : Kx) : Kx := .mk 5 o 0 0 0 [a, b]
def k1 (o : Nat) (a : Kx) : Kx := .mk 4 o 0 0 0 [a]
def kN (n : Int) : Kx := .mk 1 0 0 n 0 []
def kV (v : Int) : Kx := .mk 2 0 0 0 v []
def kE (v : Int) (e : Kx) : Kx := .mk 3 0 0 0 v [e]
theorem vl_k1 (s : St) (o : Nat) (a : Kx) : vlX s (k1 o a) = match vlX s a with
    | none => none
    | some x => apO o x 0 := by
  cases h : vlX s a with
  | none => exact vl_none s (by show (4 : Nat) ≠ 1; decide) (by show (4 : Nat) ≠ 2; decide) (by show 0 < 1; decide) h
  | some x => exact vl_4 s rfl (by show 0 < 1; decide) h
theorem vl_k2 (s : St) (o : Nat) (a b : Kx) : vlX s (k2 o a b) = match vlX s a with
    | none => none
    | some x => if decO o x = true then some x else match vlX s b with
      | none => none
      | some y => apO o x y := by
  cases h : vlX s a with
  | none => exact vl_none s (by show (5 : Nat) ≠ 1; decide) (by show (5 : Nat) ≠ 2; decide) (by show 0 < 2; decide) h
  | some x =>
    show _ = if decO o x = true then _ else _
    cases hd : decO o x with
    | true => rw [if_pos rfl]; exact vl_5d s rfl (by show 0 < 2; decide) h hd
    | false =>
      rw [if_neg (by simp)]
      cases hb : vlX s b with
      | none => exact vl_5n s rfl (by show 1 < 2; decide) h hd hb
      | some y => exact vl_5 s rfl (by show 1 < 2; decide) h hd hb
theorem ap_not (x : Int) : apO 26 x 0 = if isT x = true then some (1 - x) else none := rfl
theorem ap_and (x y : Int) : apO 20 x y = if isT x = true ∧ isT y = true then some (b01 (decide (x = 1 ∧ y = 1))) else none := rfl
theorem ap_or (x y : Int) : apO 21 x y = if isT x = true ∧ isT y = true then some (b01 (decide (x = 1 ∨ y = 1))) else none := rfl
theorem isT_iff (x : Int) : isT x = true ↔ x = 0 ∨ x = 1 := by unfold isT; simp
/-- The four sides by the operands' values. -/
theorem morgan (s : St) (a b : Kx) : vlX s (k2 20 a b) = vlX s (k1 26 (k2 21 (k1 26 a) (k1 26 b))) ∧ vlX s (k2 21 a b) = vlX s (k1 26 (k2 20 (k1 26 a) (k1 26 b))) := by
  rw [vl_k1, vl_k1, vl_k2, vl_k2, vl_k2, vl_k2, vl_k1, vl_k1]
  generalize vlX s a = p
  generalize vlX s b = q
  cases p with
  | none => exact ⟨rfl, rfl⟩
  | some x =>
    by_cases hx : isT x = true
    · rcases (isT_iff x).1 hx with rfl | rfl
      · cases q with
        | none => exact ⟨rfl, rfl⟩
        | some y =>
          by_cases hy : isT y = true
          · rcases (isT_iff y).1 hy with rfl | rfl <;> exact ⟨rfl, rfl⟩
          · have e : apO 26 y 0 = none := by rw [ap_not, if_neg hy]
            have e2 : apO 21 0 y = none := by rw [ap_or, if_neg fun h => hy h.2]
            simp only [e, e2]
            exact ⟨rfl, rfl⟩
      · cases q with
        | none => exact ⟨rfl, rfl⟩
        | some y =>
          by_cases hy : isT y = true
          · rcases (isT_iff y).1 hy with rfl | rfl <;> exact ⟨rfl, rfl⟩
          · have e : apO 26 y 0 = none := by rw [ap_not, if_neg hy]
            have e2 : apO 20 1 y = none := by rw [ap_and, if_neg fun h => hy h.2]
            simp only [e, e2]
            exact ⟨rfl, rfl⟩
    · have e : apO 26 x 0 = none := by rw [ap_not, if_neg hx]
      have hx0 : x ≠ 0 := fun h => hx ((isT_iff x).2 (.inl h))
      have hx1 : x ≠ 1 := fun h => hx ((isT_iff x).2 (.inr h))
      have d1 : decO 20 x = false := by unfold decO; simp [hx0]
      have d2 : decO 21 x = false := by unfold decO; simp [hx1]
      simp only [e, d1, d2]
      cases q with
      | none => exact ⟨rfl, rfl⟩
      | some y =>
        have e1 : apO 20 x y = none := by rw [ap_and, if_neg fun h => hx h.1]
        have e2 : apO 21 x y = none := by rw [ap_or, if_neg fun h => hx h.1]
        simp only [e1, e2]
        exact ⟨rfl, rfl⟩
end Go.Proofs.YtblckajejohlbaaDoor.L17
/- What the laws say of trees, plain. -/
set_option linter.unusedVariables false
set_option linter.unusedSimpArgs false
namespace Go.Proofs.YtblckajejohlbaaDoor.L22
open Go

/-! ### By the number of parts -/
theorem rg_none {e : Kx} (h : e.l = []) : rgX e = 1 := by rw [rgX_eq, h, rgK]; rfl
theorem rg_one {e : Kx} {a : Kx} (h : e.l = [a]) (hk : e.k ≠ 5) : rgX e = if (e.k = 4 ∧ (e.o = 25 ∨ e.o = 26)) ∨ (e.k = 6 ∧ e.t = 1) then rgX a else max (rgX a) 2 := by
  rw [rgX_eq, h, rgK_map]; unfold rgO; rw [if_neg (by simp), if_pos hk]; rfl
theorem rg_two {e : Kx} {a b : Kx} (h : e.l = [a, b]) (hk : e.k = 5) : rgX e = if e.o ≠ 20 ∧ e.o ≠ 21 ∧ rgX a = rgX b then min (rgX a + 1) 3 else max (rgX a) (rgX b) := by
  rw [rgX_eq, h, rgK_map]; unfold rgO; rw [if_neg (by simp), if_neg (by omega)]; rfl
theorem tp_none {e : Kx} (h : e.l = []) : tpX e = 0 := by rw [tpX_eq, h, tpK]; rfl
theorem tp_one {e : Kx} {a : Kx} (h : e.l = [a]) : tpX e = tpX a := by
  rw [tpX_eq, h, tpK_map]; unfold tpO; rw [if_neg (by simp), if_pos (show (List.map tpX [a]).length = 1 from rfl)]; rfl
theorem tp_two {e : Kx} {a b : Kx} (h : e.l = [a, b]) : tpX e = if e.k = 5 ∧ e.o ≠ 20 ∧ e.o ≠ 21 ∧ rgX a = 3 ∧ rgX b = 3 then max (tpX b) (tpX a + 1) else max (tpX a) (tpX b) := by
  rw [tpX_eq, h, tpK_map, rgK_map]; unfold tpO; rw [if_neg (by simp), if_neg (by simp)]; rfl
theorem shape3 {e : Kx} (ok : okX e = true) : (e.l = [] ∧ (e.k = 1 ∨ e.k = 2)) ∨ (∃ a, e.l = [a] ∧ (e.k = 3 ∨ e.k = 4 ∨ e.k = 6) ∧ okX a = true) ∨ (∃ a b, e.l = [a, b] ∧ e.k = 5 ∧ okX a = true ∧ okX b = true) := by
  have okl := ok_parts ok
  rcases sh_len (ok_sh ok) with ⟨h, hk⟩ | ⟨h, hk⟩ | ⟨h, hk⟩
  · exact .inl ⟨len0 h, hk⟩
  · obtain ⟨a, ha⟩ := len1 h
    exact .inr (.inl ⟨a, ha, hk, okK_mem okl (by rw [ha]; exact List.mem_cons_self ..)⟩)
  · obtain ⟨a, b, ha⟩ := len2 h
    exact .inr (.inr ⟨a, b, ha, hk, okK_mem okl (by rw [ha]; exact List.mem_cons_self ..), okK_mem okl (by rw [ha]; exact List.mem_cons_of_mem _ (List.mem_cons_self ..))⟩)
/-! ### Parts -/
theorem rg_part {e x : Kx} (ok : okX e = true) (hx : x ∈ e.l) : rgX x ≤ rgX e := by
  rcases shape3 ok with ⟨h, _⟩ | ⟨a, h, hk, oa⟩ | ⟨a, b, h, hk, oa, ob⟩
  · rw [h] at hx; cases hx
  · rw [rg_one h (by omega)]
    rw [h] at hx
    obtain rfl : x = a := by simpa using hx
    split <;> omega
  · rw [rg_two h hk]
    rw [h] at hx
    have ra := rg_rng a oa
    have rb := rg_rng b ob
    have : x = a ∨ x = b := by simpa using hx
    rcases this with rfl | rfl <;> split <;> omega
theorem tp_part {e x : Kx} (ok : okX e = true) (hx : x ∈ e.l) : tpX x ≤ tpX e := by
  rcases shape3 ok with ⟨h, _⟩ | ⟨a, h, hk, oa⟩ | ⟨a, b, h, hk, oa, ob⟩
  · rw [h] at hx; cases hx
  · rw [tp_one h]
    rw [h] at hx
    obtain rfl : x = a := by simpa using hx
    omega
  · rw [tp_two h]
    rw [h] at hx
    have : x = a ∨ x = b := by simpa using hx
    rcases this with rfl | rfl <;> split <;> omega
theorem fit_part {e x : Kx} (h : mayX e = true) (hx : x ∈ e.l) : mayX x = true := by
  obtain ⟨h1, h2, h3⟩ := may_iff.1 h
  rw [dpX_eq] at h2
  rw [szX_eq] at h3
  have := dpK_mem hx
  have := szK_mem hx
  exact may_iff.2 ⟨okK_mem (ok_parts h1) hx, by omega, by omega⟩
theorem Dep_part {e x : Kx} (h : mayX e = true) (hx : x ∈ e.l) : DepX x ≤ DepX e ∧ TmpX x ≤ TmpX e ∧ (SafX e = true → SafX x = true) := by
  have hm := fit_part h hx
  have ok := (may_iff.1 h).1
  unfold DepX TmpX SafX
  rw [h, hm, if_pos rfl, if_pos rfl, if_pos rfl, if_pos rfl, Bool.true_and, Bool.true_and]
  exact ⟨rg_part ok hx, tp_part ok hx, fun hs => by rw [sfX_eq, Bool.and_eq_true] at hs; exact sfK_mem hs.1 hx⟩
theorem tp_three : ∀ e : Kx, okX e = true → 0 < tpX e → rgX e = 3 := by
  refine Kx.ind fun e ih ok ht => ?_
  rcases shape3 ok with ⟨h, _⟩ | ⟨a, h, hk, oa⟩ | ⟨a, b, h, hk, oa, ob⟩
  · rw [tp_none h] at ht; omega
  · rw [tp_one h] at ht
    have := ih a (by rw [h]; exact List.mem_cons_self ..) oa ht
    rw [rg_one h (by omega)]
    split <;> omega
  · rw [tp_two h] at ht
    rw [rg_two h hk]
    have ra := rg_rng a oa
    have rb := rg_rng b ob
    have ia := ih a (by rw [h]; exact List.mem_cons_self ..) oa
    have ib := ih b (by rw [h]; exact List.mem_cons_of_mem _ (List.mem_cons_self ..)) ob
    by_cases hs : e.k = 5 ∧ e.o ≠ 20 ∧ e.o ≠ 21 ∧ rgX a = 3 ∧ rgX b = 3
    · rw [if_pos ⟨hs.2.1, hs.2.2.1, by omega⟩]; omega
    · rw [if_neg hs] at ht
      have : 0 < tpX a ∨ 0 < tpX b := by omega
      rcases this with h | h
      · have := ia h; split <;> omega
      · have := ib h; split <;> omega
theorem tp_deep : ∀ e : Kx, okX e = true → tpX e < dpX e := by
  refine Kx.ind fun e ih ok => ?_
  rw [dpX_eq]
  rcases shape3 ok with ⟨h, _⟩ | ⟨a, h, hk, oa⟩ | ⟨a, b, h, hk, oa, ob⟩
  · rw [tp_none h]; omega
  · have := ih a (by rw [h]; exact List.mem_cons_self ..) oa
    rw [tp_one h, h, dpK, dpK]; omega
  · have := ih a (by rw [h]; exact List.mem_cons_self ..) oa
    have := ih b (by rw [h]; exact List.mem_cons_of_mem _ (List.mem_cons_self ..)) ob
    rw [tp_two h, h, dpK, dpK, dpK]
    split <;> omega
theorem Dep_rng {e : Kx} (h : mayX e = true) : 1 ≤ DepX e ∧ DepX e ≤ 3 ∧ (0 < TmpX e → DepX e = 3) ∧ TmpX e < dpX e := by
  have ok := (may_iff.1 h).1
  unfold DepX TmpX
  rw [h, if_pos rfl, if_pos rfl]
  have := rg_rng e ok
  exact ⟨this.1, this.2, tp_three e ok, tp_deep e ok⟩
theorem Dep_not {e : Kx} (h : mayX e = false) : DepX e = 0 ∧ TmpX e = 0 ∧ SafX e = false := by
  unfold DepX TmpX SafX
  rw [h]
  exact ⟨rfl, rfl, rfl⟩
/-! ### Exchanged parts -/
def swp (l : List Kx) : List Kx := if l.length = 2 then [l.getD 1 k0, l.getD 0 k0] else l
mutual
def tnX : Kx → Kx
  | .mk k o t n v l => .mk k o t n v (swp (tnK l))
def tnK : List Kx → List Kx
  | [] => []
  | x :: r => tnX x :: tnK r
end
theorem tnK_map (l : List Kx) : tnK l = l.map tnX := by
  induction l with
  | nil => rw [tnK]; rfl
  | cons x r ih => rw [tnK, ih]; rfl
theorem tnX_eq (e : Kx) : tnX e = .mk e.k e.o e.t e.n e.v (swp (tnK e.l)) := by cases e; rw [tnX]; rfl
theorem swp_len (l : List Kx) : (swp l).length = l.length := by
  unfold swp
  split
  · rename_i h; rw [h]; rfl
  · rfl
theorem tn_l (e : Kx) : (tnX e).l = swp (e.l.map tnX) := by rw [tnX_eq, tnK_map]; rfl
theorem tn_k (e : Kx) : (tnX e).k = e.k := by rw [tnX_eq]; rfl
theorem tn_o (e : Kx) : (tnX e).o = e.o := by rw [tnX_eq]; rfl
theorem tn_t (e : Kx) : (tnX e).t = e.t := by rw [tnX_eq]; rfl
theorem tn_n (e : Kx) : (tnX e).n = e.n := by rw [tnX_eq]; rfl
theorem tn_v (e : Kx) : (tnX e).v = e.v := by rw [tnX_eq]; rfl
theorem tn_sh (e : Kx) : shX (tnX e) = shX e := by
  have hl : (tnX e).l.length = e.l.length := by rw [tn_l, swp_len, List.length_map]
  unfold shX
  rw [tn_k, tn_o, tn_t, tn_n, tn_v, hl]
theorem tn_all : ∀ e : Kx, okX e = true → okX (tnX e) = true ∧ szX (tnX e) = szX e ∧ dpX (tnX e) = dpX e ∧ rgX (tnX e) = rgX e ∧ sfX (tnX e) = sfX e := by
  refine Kx.ind fun e ih ok => ?_
  have sh := ok_sh ok
  rcases shape3 ok with ⟨h, hk⟩ | ⟨a, h, hk, oa⟩ | ⟨a, b, h, hk, oa, ob⟩
  · have hl : (tnX e).l = [] := by rw [tn_l, h]; rfl
    refine ⟨?_, ?_, ?_, ?_, ?_⟩
    · rw [okX_eq, tn_sh, sh, hl, okK]; rfl
    · rw [szX_eq, szX_eq, hl, h]
    · rw [dpX_eq, dpX_eq, hl, h]
    · rw [rg_none hl, rg_none h]
    · rw [sfX_eq, sfX_eq, hl, h, tn_k, tn_o, tn_t]
  · have hl : (tnX e).l = [tnX a] := by rw [tn_l, h]; rfl
    obtain ⟨i1, i2, i3, i4, i5⟩ := ih a (by rw [h]; exact List.mem_cons_self ..) oa
    refine ⟨?_, ?_, ?_, ?_, ?_⟩
    · rw [okX_eq, tn_sh, sh, hl, okK, okK, i1]; rfl
    · rw [szX_eq, szX_eq, hl, h, szK, szK, szK, szK, i2]
    · rw [dpX_eq, dpX_eq, hl, h, dpK, dpK, dpK, dpK, i3]
    · rw [rg_one hl (by rw [tn_k]; omega), rg_one h (by omega), tn_k, tn_o, tn_t, i4]
    · rw [sfX_eq, sfX_eq, hl, h, tn_k, tn_o, tn_t, sfK, sfK, sfK, sfK, i5]
  · have hl : (tnX e).l = [tnX b, tnX a] := by rw [tn_l, h]; rfl
    obtain ⟨i1, i2, i3, i4, i5⟩ := ih a (by rw [h]; exact List.mem_cons_self ..) oa
    obtain ⟨j1, j2, j3, j4, j5⟩ := ih b (by rw [h]; exact List.mem_cons_of_mem _ (List.mem_cons_self ..)) ob
    refine ⟨?_, ?_, ?_, ?_, ?_⟩
    · rw [okX_eq, tn_sh, sh, hl, okK, okK, okK, i1, j1]; rfl
    · rw [szX_eq, szX_eq, hl, h, szK, szK, szK, szK, szK, szK, i2, j2]; omega
    · rw [dpX_eq, dpX_eq, hl, h, dpK, dpK, dpK, dpK, dpK, dpK, i3, j3]; omega
    · rw [rg_two hl (by rw [tn_k]; exact hk), rg_two h hk, tn_o, i4, j4]
      by_cases hc : e.o ≠ 20 ∧ e.o ≠ 21 ∧ rgX a = rgX b
      · rw [if_pos hc, if_pos ⟨hc.1, hc.2.1, hc.2.2.symm⟩]; omega
      · rw [if_neg hc, if_neg (fun h => hc ⟨h.1, h.2.1, h.2.2.symm⟩)]; omega
    · rw [sfX_eq, sfX_eq, hl, h, tn_k, tn_o, tn_t, sfK, sfK, sfK, sfK, sfK, sfK, i5, j5]
      cases sfX a <;> cases sfX b <;> rfl
theorem Dep_turned {e : Kx} (h : mayX e = true) : DepX (tnX e) = DepX e ∧ SafX (tnX e) = SafX e := by
  obtain ⟨h1, h2, h3⟩ := may_iff.1 h
  obtain ⟨i1, i2, i3, i4, i5⟩ := tn_all e h1
  have hm : mayX (tnX e) = true := may_iff.2 ⟨i1, by omega, by omega⟩
  unfold DepX SafX
  rw [h, hm, if_pos rfl, if_pos rfl, i4, i5]
  exact ⟨rfl, rfl⟩
/-! ### Two equal operands -/
def twX (o : Nat) (a b : Kx) : Kx := .mk 5 o 0 0 0 [a, b]
def nuX (n : Int) : Kx := .mk 1 0 0 n 0 []
theorem Dep_grows {e : Kx} {o : Nat} (h20 : o ≠ 20) (h21 : o ≠ 21) (h : mayX (twX o e e) = true) :
    (DepX e < 3 → DepX (twX o e e) = DepX e + 1 ∧ TmpX (twX o e e) = TmpX e) ∧ (¬ DepX e < 3 → DepX (twX o e e) = 3 ∧ TmpX (twX o e e) = TmpX e + 1) := by
  have hp : mayX e = true := fit_part h (show e ∈ [e, e] from List.mem_cons_self ..)
  have ok := (may_iff.1 hp).1
  have r := rg_rng e ok
  unfold DepX TmpX
  rw [h, hp, if_pos rfl, if_pos rfl, if_pos rfl, if_pos rfl]
  have hr : rgX (twX o e e) = min (rgX e + 1) 3 := by
    rw [rg_two (e := twX o e e) (a := e) (b := e) rfl rfl, if_pos ⟨h20, h21, rfl⟩]
  have ht : tpX (twX o e e) = if rgX e = 3 then tpX e + 1 else tpX e := by
    rw [tp_two (e := twX o e e) (a := e) (b := e) rfl]
    by_cases h3 : rgX e = 3
    · rw [if_pos ⟨rfl, h20, h21, h3, h3⟩, if_pos h3]; omega
    · rw [if_neg (fun h => h3 h.2.2.2.1), if_neg h3]; omega
  rw [hr, ht]
  refine ⟨fun hd => ⟨by omega, by rw [if_neg (by omega)]⟩, fun hd => ⟨by omega, by rw [if_pos (by omega)]⟩⟩
end Go.Proofs.YtblckajejohlbaaDoor.L22
/- The kinds of values; constants without names as expressions of a kernel; shapes of the laws' trees. Plain Lean. -/
set_option linter.unusedVariables false
set_option linter.unusedSimpArgs false
namespace Go.Proofs.YtblckajejohlbaaDoor.L17
open Go L22 L14 L10

/-! ### Kinds -/
/-- A variable: kind and dimension. -/
abbrev Vr := Nat × Int
def v0 : Vr := (0, 0)
def sndV (x : Vr) : Bool := decide (1 ≤ x.1) && (decide (x.1 ≤ 3) && (decide (0 ≤ x.2) && decide (x.2 ≤ 64)))
def sndL (l : List Vr) : Bool := decide (l.length ≤ 256) && l.all sndV
def lngV (x : Vr) : Nat := if x.2 = 0 then 1 else x.2.toNat
def stoV (l : List Vr) : St := l.map fun x => List.replicate (lngV x) 0
def fitV (k : Nat) (x : Int) : Bool := (conO k x).isSome
def rowV (v : Vr) (l : List Int) : Bool := decide (l.length = lngV v) && l.all (fitV v.1)
def mayS (vs : List Vr) (s : St) : Bool := sndL vs && (decide (s.length = vs.length) && (List.zip vs s).all fun p => rowV p.1 p.2)
theorem zip_at {α β : Type} {a : List α} {b : List β} {i : Nat} (d : α) (e : β) (ha : i < a.length) (hb : i < b.length) : (a.getD i d, b.getD i e) ∈ List.zip a b := by
  refine List.mem_iff_getElem.2 ⟨i, by rw [List.length_zip]; omega, ?_⟩
  simp [ha, hb]
theorem may_row {vs : List Vr} {s : St} (h : mayS vs s = true) {i : Nat} (hi : i < s.length) : rowV (vs.getD i v0) (s.getD i []) = true := by
  unfold mayS at h
  simp only [Bool.and_eq_true, decide_eq_true_eq] at h
  exact List.all_eq_true.1 h.2.2 _ (zip_at v0 [] (by omega) hi)
theorem may_len {vs : List Vr} {s : St} (h : mayS vs s = true) : s.length = vs.length := by
  unfold mayS at h
  simp only [Bool.and_eq_true, decide_eq_true_eq] at h
  exact h.2.1
theorem row_fit {v : Vr} {l : List Int} (h : rowV v l = true) {j : Nat} (hj : j < l.length) : fitV v.1 (l.getD j 0) = true := by
  unfold rowV at h
  simp only [Bool.and_eq_true, decide_eq_true_eq] at h
  have : l.getD j 0 ∈ l := by rw [List.getD_eq_getElem?_getD, List.getElem?_eq_getElem hj]; exact List.getElem_mem hj
  exact List.all_eq_true.1 h.2 _ this
theorem at_fit {vs : List Vr} {s : St} (h : mayS vs s = true) {v i x : Int} (hx : atS s v i = some x) : fitV (vs.getD v.toNat v0).1 x = true := by
  unfold atS at hx
  split at hx
  · rename_i hc
    injection hx with hx
    subst hx
    exact row_fit (may_row h (by omega)) (by omega)
  · cases hx
def oneK (k : Nat) (f : Nat → Bool) : Bool := f k
/-- Does a valid tree fit a kind? -/
def ftO (vs : List Vr) (k o t : Nat) (n v : Int) (fs : List (Nat → Bool)) (kind : Nat) : Bool :=
  let a := fs.getD 0 fun _ => false
  let b := fs.getD 1 fun _ => false
  let w := vs.getD v.toNat v0
  if k = 1 then decide (kind = 1) || (decide (kind = 2) && (decide (0 ≤ n) && decide (n ≤ 255)) || (decide (kind = 3) && (decide (n = 0) || decide (n = 1))))
  else if k = 2 then decide (v < (vs.length : Int)) && (decide (w.2 = 0) && decide (w.1 = kind))
  else if k = 3 then decide (v < (vs.length : Int)) && (decide (0 < w.2) && (decide (w.1 = kind) && a 1))
  else if k = 6 then decide (t = kind) && (a 1 || (a 2 || a 3))
  else if k = 4 then (if o = 26 then decide (kind = 3) && a 3 else decide (kind = 1) && a 1)
  else if o ≤ 13 then decide (kind = 1) && (a 1 && b 1)
  else if kind ≠ 3 then false
  else if o = 14 ∨ o = 15 then (a 1 && b 1) || ((a 2 && b 2) || (a 3 && b 3))
  else if o ≤ 19 then (a 1 && b 1) || (a 2 && b 2)
  else if o = 22 then a 1 && b 1
  else a 3 && b 3
mutual
def ftX (vs : List Vr) : Kx → Nat → Bool
  | .mk k o t n v l => ftO vs k o t n v (ftK vs l)
def ftK (vs : List Vr) : List Kx → List (Nat → Bool)
  | [] => []
  | x :: r => ftX vs x :: ftK vs r
end
theorem ftX_eq (vs : List Vr) (e : Kx) : ftX vs e = ftO vs e.k e.o e.t e.n e.v (ftK vs e.l) := by cases e; rw [ftX]; rfl
theorem ftK_map (vs : List Vr) (l : List Kx) : ftK vs l = l.map (ftX vs) := by
  induction l with
  | nil => rw [ftK]; rfl
  | cons x r ih => rw [ftK, ih]; rfl
theorem ft_g (vs : List Vr) {l : List Kx} {i : Nat} (h : i < l.length) : (ftK vs l).getD i (fun _ => false) = ftX vs (l.getD i k0) := by
  rw [ftK_map]
  simp [h]
theorem fit_b01 (p : Bool) : fitV 3 (b01 p) = true := by cases p <;> rfl
theorem fit_con {t : Nat} {x y : Int} (h : conO t x = some y) : fitV t y = true := by
  have e := con_is h
  subst e
  unfold fitV
  rw [h]; rfl
theorem fit_sub {x : Int} (h : isT x = true) : fitV 3 (1 - x) = true := by
  rcases (isT_iff x).1 h with rfl | rfl <;> rfl
/-- The values of comparisons and of the operators on truth values are 0 or 1. -/
theorem ap_truth {o : Nat} (h : 14 ≤ o) (h2 : o ≤ 22) {a b x : Int} (hx : apO o a b = some x) : fitV 3 x = true := by
  have ho : o = 14 ∨ o = 15 ∨ o = 16 ∨ o = 17 ∨ o = 18 ∨ o = 19 ∨ o = 20 ∨ o = 21 ∨ o = 22 := by omega
  rcases ho with rfl | rfl | rfl | rfl | rfl | rfl | rfl | rfl | rfl
  · obtain rfl : b01 _ = x := Option.some.inj hx; exact fit_b01 _
  · obtain rfl : b01 _ = x := Option.some.inj hx; exact fit_b01 _
  · obtain rfl : b01 _ = x := Option.some.inj hx; exact fit_b01 _
  · obtain rfl : b01 _ = x := Option.some.inj hx; exact fit_b01 _
  · obtain rfl : b01 _ = x := Option.some.inj hx; exact fit_b01 _
  · obtain rfl : b01 _ = x := Option.some.inj hx; exact fit_b01 _
  · rw [ap_and] at hx
    split at hx
    · obtain rfl := Option.some.inj hx; exact fit_b01 _
    · cases hx
  · rw [ap_or] at hx
    split at hx
    · obtain rfl := Option.some.inj hx; exact fit_b01 _
    · cases hx
  · obtain rfl : b01 _ = x := Option.some.inj hx; exact fit_b01 _
/-- A tree that fits a truth value or a byte has such a value. -/
theorem kinds {vs : List Vr} {s : St} (h : mayS vs s = true) {e : Kx} (ok : okX e = true) {kind : Nat} (hk : kind = 2 ∨ kind = 3) (hf : ftX vs e kind = true) {x : Int} (hx : vlX s e = some x) : fitV kind x = true := by
  rw [ftX_eq] at hf
  unfold ftO at hf
  dsimp only at hf
  by_cases h1 : e.k = 1
  · rw [vl_1 s h1] at hx
    obtain rfl := Option.some.inj hx
    rw [if_pos h1] at hf
    rcases hk with rfl | rfl
    · simp at hf
      unfold fitV conO
      rw [if_pos (by omega)]; rfl
    · simp at hf
      unfold fitV conO
      rw [if_pos (by omega)]; rfl
  rw [if_neg h1] at hf
  by_cases h2 : e.k = 2
  · rw [vl_2 s h2] at hx
    rw [if_pos h2] at hf
    simp only [Bool.and_eq_true, decide_eq_true_eq] at hf
    have := at_fit h hx
    rwa [hf.2.2] at this
  rw [if_neg h2] at hf
  have hl : 0 < e.l.length := by
    rcases sh_len (ok_sh ok) with ⟨_, hh⟩ | ⟨hh, _⟩ | ⟨hh, _⟩ <;> omega
  cases ha : vlX s (e.l.getD 0 k0) with
  | none => rw [vl_none s h1 h2 hl ha] at hx; cases hx
  | some a =>
    by_cases h3 : e.k = 3
    · rw [vl_3 s h3 hl ha] at hx
      rw [if_pos h3] at hf
      simp only [Bool.and_eq_true, decide_eq_true_eq] at hf
      have := at_fit h hx
      rwa [hf.2.2.1] at this
    rw [if_neg h3] at hf
    by_cases h6 : e.k = 6
    · rw [vl_6 s h6 hl ha] at hx
      rw [if_pos h6] at hf
      simp only [Bool.and_eq_true, decide_eq_true_eq] at hf
      have := fit_con hx
      rwa [hf.1] at this
    rw [if_neg h6] at hf
    by_cases h4 : e.k = 4
    · rw [vl_4 s h4 hl ha] at hx
      rw [if_pos h4] at hf
      by_cases ho : e.o = 26
      · rw [if_pos ho] at hf
        simp only [Bool.and_eq_true, decide_eq_true_eq] at hf
        rw [ho, ap_not] at hx
        split at hx
        · rename_i ht
          obtain rfl := Option.some.inj hx
          rw [hf.1]; exact fit_sub ht
        · cases hx
      · rw [if_neg ho] at hf
        simp only [Bool.and_eq_true, decide_eq_true_eq] at hf
        omega
    rw [if_neg h4] at hf
    have h5 : e.k = 5 ∧ 1 < e.l.length := by
      rcases sh_len (ok_sh ok) with ⟨_, hh⟩ | ⟨_, hh⟩ | ⟨hh, hh2⟩ <;> omega
    have ho22 : e.o ≤ 22 := by
      have hs := ok_sh ok
      unfold shX at hs
      rw [if_neg h1, if_neg h2, if_neg h3, if_neg h4, if_pos h5.1] at hs
      simp only [Bool.and_eq_true, decide_eq_true_eq] at hs
      omega
    by_cases ho : e.o ≤ 13
    · rw [if_pos ho] at hf
      simp only [Bool.and_eq_true, decide_eq_true_eq] at hf
      omega
    rw [if_neg ho] at hf
    by_cases hk3 : kind = 3
    · subst hk3
      cases hd : decO e.o a with
      | true =>
        rw [vl_5d s h5.1 hl ha hd] at hx
        obtain rfl := Option.some.inj hx
        unfold decO at hd
        simp at hd
        rcases hd with ⟨_, rfl⟩ | ⟨_, rfl⟩ <;> rfl
      | false =>
        cases hb : vlX s (e.l.getD 1 k0) with
        | none => rw [vl_5n s h5.1 h5.2 ha hd hb] at hx; cases hx
        | some b =>
          rw [vl_5 s h5.1 h5.2 ha hd hb] at hx
          exact ap_truth (by omega) ho22 hx
    · rw [if_pos hk3] at hf; cases hf
/-! ### The zero store is a store -/
theorem sto_may {vs : List Vr} (h : sndL vs = true) : mayS vs (stoV vs) = true := by
  unfold mayS
  rw [h]
  have hl : (stoV vs).length = vs.length := by unfold stoV; rw [List.length_map]
  rw [hl]
  simp only [decide_true, Bool.true_and]
  refine List.all_eq_true.2 fun p hp => ?_
  unfold stoV at hp
  obtain ⟨i, hi, rfl⟩ := List.mem_iff_getElem.1 hp
  simp only [List.getElem_zip, List.getElem_map]
  unfold sndL at h
  rw [Bool.and_eq_true] at h
  have hi2 : i < vs.length := by rw [List.length_zip] at hi; omega
  have hs := List.all_eq_true.1 h.2 (vs[i]'hi2) (List.getElem_mem _)
  unfold sndV at hs
  simp only [Bool.and_eq_true, decide_eq_true_eq] at hs
  unfold rowV
  rw [List.length_replicate, decide_eq_true rfl, Bool.true_and]
  refine List.all_eq_true.2 fun y hy => ?_
  obtain rfl := (List.mem_replicate.1 hy).2
  unfold fitV conO
  rw [if_pos (by omega)]; rfl
/-! ### Values are words -/
theorem div_w {a b : Int} (ha : inW a) (hb : inW b) (h : ¬ (b = 0 ∨ (a = -2147483648 ∧ b = -1))) : inW (a.tdiv b) := by
  unfold inW at *
  have h0 : b ≠ 0 := fun e => h (.inl e)
  have hn : (a.tdiv b).natAbs ≤ a.natAbs := by rw [Int.natAbs_tdiv]; exact Nat.div_le_self _ _
  refine ⟨by omega, ?_⟩
  by_cases hq : a = -2147483648
  · have hb1 : b ≠ -1 := fun e => h (.inr ⟨hq, e⟩)
    by_cases hb2 : b = 1
    · rw [hb2, Int.tdiv_one]; omega
    · have h2 : 2 ≤ b.natAbs := by omega
      have : (a.tdiv b).natAbs ≤ a.natAbs / 2 := by
        rw [Int.natAbs_tdiv]
        exact Nat.div_le_div_left h2 (by decide)
      omega
  · omega
theorem mod_w {a b : Int} (ha : inW a) (hb : inW b) : inW (a.tmod b) := by
  unfold inW at *
  have hn : (a.tmod b).natAbs ≤ a.natAbs := by rw [Int.natAbs_tmod]; exact Nat.mod_le _ _
  by_cases h : 0 ≤ a
  · have := Int.tmod_nonneg b h; omega
  · have : (a.tmod b) ≤ 0 := by
      have := Int.tmod_nonneg b (show 0 ≤ -a by omega)
      rw [Int.neg_tmod] at this
      omega
    omega
theorem bits_w (o : BinOp) (a b : Int) : inW (bits o .i32 a b) := ⟨bits_lo_i32 o a b, bits_hi_i32 o a b⟩
theorem ap_w {o : Nat} {a b x : Int} (ha : inW a) (hb : inW b) (h : apO o a b = some x) : inW x := by
  by_cases hbig : o = 0 ∨ 27 ≤ o
  · unfold apO at h
    repeat rw [if_neg (by omega)] at h
    cases h
  have hs : o = 1 ∨ o = 2 ∨ o = 3 ∨ o = 4 ∨ o = 5 ∨ o = 6 ∨ o = 7 ∨ o = 8 ∨ o = 9 ∨ o = 10 ∨ o = 11 ∨ o = 12 ∨ o = 13 ∨ o = 14 ∨ o = 15 ∨ o = 16 ∨ o = 17 ∨ o = 18 ∨ o = 19 ∨ o = 20 ∨ o = 21 ∨ o = 22 ∨ o = 23 ∨ o = 24 ∨ o = 25 ∨ o = 26 := by omega
  rcases hs with rfl | rfl | rfl | rfl | rfl | rfl | rfl | rfl | rfl | rfl | rfl | rfl | rfl | rfl | rfl | rfl | rfl | rfl | rfl | rfl | rfl | rfl | rfl | rfl | rfl | rfl
  · exact fit_w (show fitO _ = some x from h)
  · exact fit_w (show fitO _ = some x from h)
  · exact fit_w (show fitO _ = some x from h)
  · have h : (if b = 0 ∨ (a = -2147483648 ∧ b = -1) then none else some (a.tdiv b)) = some x := h
    split at h
    · cases h
    · rename_i hc; obtain rfl := Option.some.inj h; exact div_w ha hb hc
  · have h : (if b = 0 then none else some (a.tmod b)) = some x := h
    split at h
    · cases h
    · obtain rfl := Option.some.inj h; exact mod_w ha hb
  · obtain rfl : w32 _ = x := Option.some.inj h; exact w32_w _
  · obtain rfl : w32 _ = x := Option.some.inj h; exact w32_w _
  · obtain rfl : w32 _ = x := Option.some.inj h; exact w32_w _
  · obtain rfl : bits _ .i32 _ _ = x := Option.some.inj h; exact bits_w _ _ _
  · obtain rfl : bits _ .i32 _ _ = x := Option.some.inj h; exact bits_w _ _ _
  · obtain rfl : bits _ .i32 _ _ = x := Option.some.inj h; exact bits_w _ _ _
  · obtain rfl : w32 _ = x := Option.some.inj h; exact w32_w _
  · obtain rfl : w32 _ = x := Option.some.inj h; exact w32_w _
  · obtain rfl : b01 _ = x := Option.some.inj h; exact b01_w _
  · obtain rfl : b01 _ = x := Option.some.inj h; exact b01_w _
  · obtain rfl : b01 _ = x := Option.some.inj h; exact b01_w _
  · obtain rfl : b01 _ = x := Option.some.inj h; exact b01_w _
  · obtain rfl : b01 _ = x := Option.some.inj h; exact b01_w _
  · obtain rfl : b01 _ = x := Option.some.inj h; exact b01_w _
  · rw [ap_and] at h
    split at h
    · obtain rfl := Option.some.inj h; exact b01_w _
    · cases h
  · rw [ap_or] at h
    split at h
    · obtain rfl := Option.some.inj h; exact b01_w _
    · cases h
  · obtain rfl : b01 _ = x := Option.some.inj h; exact b01_w _
  · exact fit_w (show fitO _ = some x from h)
  · obtain rfl : w32 _ = x := Option.some.inj h; exact w32_w _
  · obtain rfl : bits _ .i32 _ _ = x := Option.some.inj h; exact bits_w _ _ _
  · have h : (if isT a = true then some (1 - a) else none) = some x := h
    split at h
    · rename_i hc; obtain rfl := Option.some.inj h
      rcases (isT_iff a).1 hc with rfl | rfl <;> (unfold inW; omega)
    · cases h
mutual
/-- All its numbers are words. -/
def wnX : Kx → Prop
  | .mk _ _ _ n _ l => inW n ∧ wnK l
def wnK : List Kx → Prop
  | [] => True
  | x :: r => wnX x ∧ wnK r
end
theorem wnX_eq (e : Kx) : wnX e = (inW e.n ∧ wnK e.l) := by cases e; rw [wnX]; rfl
theorem wn_mem {l : List Kx} (h : wnK l) {x : Kx} (hx : x ∈ l) : wnX x := by
  induction l with
  | nil => cases hx
  | cons y r ih =>
    rw [wnK] at h
    rcases List.mem_cons.1 hx with rfl | hx
    · exact h.1
    · exact ih h.2 hx
theorem wn_all {l : List Kx} (h : ∀ x ∈ l, wnX x) : wnK l := by
  induction l with
  | nil => rw [wnK]; trivial
  | cons y r ih => rw [wnK]; exact ⟨h y (List.mem_cons_self ..), ih fun x hx => h x (List.mem_cons_of_mem _ hx)⟩
theorem vl_w {s : St} (hs : stW s) : ∀ e : Kx, okX e = true → wnX e → ∀ x : Int, vlX s e = some x → inW x := by
  refine Kx.ind fun e ih ok wn x hx => ?_
  rw [wnX_eq] at wn
  have pw : ∀ y ∈ e.l, ∀ v, vlX s y = some v → inW v := fun y hy => ih y hy (okK_mem (ok_parts ok) hy) (wn_mem wn.2 hy)
  rcases shape3 ok with ⟨h, hk⟩ | ⟨a, h, hk, oa⟩ | ⟨a, b, h, hk, oa, ob⟩
  · rcases hk with hk | hk
    · rw [vl_1 s hk] at hx; obtain rfl := Option.some.inj hx; exact wn.1
    · rw [vl_2 s hk] at hx; exact at_w hs hx
  · have ma : a ∈ e.l := by rw [h]; exact List.mem_cons_self ..
    have ga : e.l.getD 0 k0 = a := by rw [h]; rfl
    have hl : 0 < e.l.length := by rw [h]; simp
    cases hv : vlX s a with
    | none => rw [vl_none s (by omega) (by omega) hl (by rw [ga]; exact hv)] at hx; cases hx
    | some y =>
      have hy := pw a ma y hv
      rcases hk with hk | hk | hk
      · rw [vl_3 s hk hl (by rw [ga]; exact hv)] at hx; exact at_w hs hx
      · rw [vl_4 s hk hl (by rw [ga]; exact hv)] at hx; exact ap_w hy (by unfold inW; omega) hx
      · rw [vl_6 s hk hl (by rw [ga]; exact hv)] at hx; exact con_w hy hx
  · have ma : a ∈ e.l := by rw [h]; exact List.mem_cons_self ..
    have mb : b ∈ e.l := by rw [h]; exact List.mem_cons_of_mem _ (List.mem_cons_self ..)
    have ga : e.l.getD 0 k0 = a := by rw [h]; rfl
    have gb : e.l.getD 1 k0 = b := by rw [h]; rfl
    have hl : 1 < e.l.length := by rw [h]; simp
    cases hv : vlX s a with
    | none => rw [vl_none s (by omega) (by omega) (by omega) (by rw [ga]; exact hv)] at hx; cases hx
    | some y =>
      have hy := pw a ma y hv
      cases hd : decO e.o y with
      | true => rw [vl_5d s hk (by omega) (by rw [ga]; exact hv) hd] at hx; obtain rfl := Option.some.inj hx; exact hy
      | false =>
        cases hb : vlX s b with
        | none => rw [vl_5n s hk hl (by rw [ga]; exact hv) hd (by rw [gb]; exact hb)] at hx; cases hx
        | some z => rw [vl_5 s hk hl (by rw [ga]; exact hv) hd (by rw [gb]; exact hb)] at hx; exact ap_w hy (pw b mb z hb) hx
theorem ok_t {e : Kx} (ok : okX e = true) (hk : e.k = 6) : 1 ≤ e.t ∧ e.t ≤ 3 := by
  have hs := ok_sh ok
  unfold shX at hs
  rw [if_neg (by omega), if_neg (by omega), if_neg (by omega), if_neg (by omega), if_neg (by omega), if_pos hk] at hs
  simp only [Bool.and_eq_true, decide_eq_true_eq] at hs
  omega
theorem decO_iff (o : Nat) (a : Int) : decO o a = true ↔ (o = 20 ∧ a = 0) ∨ (o = 21 ∧ a = 1) := by unfold decO; simp
theorem decO_no {o : Nat} {a : Int} (h : decO o a = false) : ¬ ((o = 20 ∧ a = 0) ∨ (o = 21 ∧ a = 1)) := fun k => by rw [(decO_iff o a).2 k] at h; cases h
/-! ### Constants without names -/
mutual
def plE : Ex → Option Kx
  | .mk k o t n s l => if k = 1 ∨ k = 2 ∨ k = 3 then some (kN n) else if k = 6 ∨ k = 7 ∨ k = 8 then (plL l).map fun r => .mk (k - 2) o t 0 0 r else none
def plL : List Ex → Option (List Kx)
  | [] => some []
  | x :: r => (plE x).bind fun y => (plL r).map (y :: ·)
end
theorem plE_eq (e : Ex) : plE e = if e.k = 1 ∨ e.k = 2 ∨ e.k = 3 then some (kN e.n) else if e.k = 6 ∨ e.k = 7 ∨ e.k = 8 then (plL e.l).map fun r => .mk (e.k - 2) e.o e.t 0 0 r else none := by
  cases e; rw [plE]; rfl
end Go.Proofs.YtblckajejohlbaaDoor.L17
/- Expressions of a kernel in memory: what can be read. -/
set_option linter.unusedVariables false
set_option linter.unusedSimpArgs false
namespace Go.Proofs.YtblckajejohlbaaDoor
open Go Go.RowKit L8 L22

/-- A tree as a value, its parts in a slice. -/
def kxV (e : Kx) (A : Option Addr) (n c : Nat) : Value := .agg #[.int .u8 (e.k : Int), .int .u8 (e.o : Int), .int .u8 (e.t : Int), .int .i32 e.n, .int .i64 e.v, .slice A n c]
def kxC (e : Kx) (A : Option Addr) (n c : Nat) : Array Value := #[.int .u8 (e.k : Int), .int .u8 (e.o : Int), .int .u8 (e.t : Int), .int .i32 e.n, .int .i64 e.v, .slice A n c]
def OKk (e : Kx) : Prop := e.k < 256 ∧ e.o < 256 ∧ e.t < 256 ∧ -2147483648 ≤ e.n ∧ e.n ≤ 2147483647 ∧ -9223372036854775808 ≤ e.v ∧ e.v ≤ 9223372036854775807
def KxAt (w : World) (p : Addr) (e : Kx) (A : Option Addr) (c : Nat) : Prop :=
  w.cell? p = some (.int .u8 (e.k : Int)) ∧ w.cell? ⟨p.block, p.off + 1, none⟩ = some (.int .u8 (e.o : Int)) ∧ w.cell? ⟨p.block, p.off + 2, none⟩ = some (.int .u8 (e.t : Int)) ∧ w.cell? ⟨p.block, p.off + 3, none⟩ = some (.int .i32 e.n)
    ∧ w.cell? ⟨p.block, p.off + 4, none⟩ = some (.int .i64 e.v) ∧ w.cell? ⟨p.block, p.off + 5, none⟩ = some (.slice A e.l.length c)
theorem KxAt.keep {w w' : World} {p : Addr} {e : Kx} {A : Option Addr} {c : Nat} (h : KxAt w p e A c) (b : Below w.heap.size w w') : KxAt w' p e A c := by
  obtain ⟨h0, h1, h2, h3, h4, h5⟩ := h
  exact ⟨(b.cell (g_lt h0)).trans h0, (b.cell (g_lt h1)).trans h1, (b.cell (g_lt h2)).trans h2, (b.cell (g_lt h3)).trans h3, (b.cell (g_lt h4)).trans h4, (b.cell (g_lt h5)).trans h5⟩
/-- A slice of trees that can be read, whole. -/
inductive KrR (w : World) : Option Addr → Nat → List Kx → Prop
  | mk {A : Option Addr} {c : Nat} {l : List Kx} (As : Nat → Option Addr) (cs : Nat → Nat) (le : l.length ≤ c) (mx : c ≤ maxLen) (ok : ∀ j, j < l.length → OKk (l.getD j k0))
      (row : ∀ j, j < l.length → ∃ ad, A = some ad ∧ KxAt w (ad.add (j * 6)) (l.getD j k0) (As j) (cs j)) (sub : ∀ j, j < l.length → KrR w (As j) (cs j) (l.getD j k0).l) : KrR w A c l
theorem KrR.le {w : World} {A : Option Addr} {c : Nat} {l : List Kx} (h : KrR w A c l) : l.length ≤ c := by cases h; assumption
theorem KrR.mx {w : World} {A : Option Addr} {c : Nat} {l : List Kx} (h : KrR w A c l) : c ≤ maxLen := by cases h; assumption
theorem KrR.keep {w w' : World} {A : Option Addr} {c : Nat} {l : List Kx} (h : KrR w A c l) (b : Below w.heap.size w w') : KrR w' A c l := by
  induction h with
  | mk As cs le mx ok row sub ih => exact .mk As cs le mx ok (fun j hj => by obtain ⟨ad, e, h⟩ := row j hj; exact ⟨ad, e, h.keep b⟩) ih
theorem KrR.nil (w : World) : KrR w none 0 [] := .mk (fun _ => none) (fun _ => 0) (Nat.le_refl _) (by simp [maxLen]) (fun j h => absurd h (by simp)) (fun j h => absurd h (by simp)) (fun j h => absurd h (by simp))
theorem KrR.at {w : World} {A : Option Addr} {c : Nat} {l : List Kx} (h : KrR w A c l) {j : Nat} (hj : j < l.length) : ∃ ad, A = some ad ∧ ∃ B n d, (l.getD j k0).l.length = n ∧ OKk (l.getD j k0) ∧ KrR w B d (l.getD j k0).l ∧
    w.cell? (ad.add (j * 6)) = some (.int .u8 ((l.getD j k0).k : Int)) ∧ w.cell? ⟨(ad.add (j * 6)).block, (ad.add (j * 6)).off + 1, none⟩ = some (.int .u8 ((l.getD j k0).o : Int)) ∧ w.cell? ⟨(ad.add (j * 6)).block, (ad.add (j * 6)).off + 2, none⟩ = some (.int .u8 ((l.getD j k0).t : Int)) ∧ w.cell? ⟨(ad.add (j * 6)).block, (ad.add (j * 6)).off + 3, none⟩ = some (.int .i32 (l.getD j k0).n)
      ∧ w.cell? ⟨(ad.add (j * 6)).block, (ad.add (j * 6)).off + 4, none⟩ = some (.int .i64 (l.getD j k0).v) ∧ w.cell? ⟨(ad.add (j * 6)).block, (ad.add (j * 6)).off + 5, none⟩ = some (.slice B n d) := by
  cases h with
  | mk As cs le mx ok row sub =>
    obtain ⟨ad, e, h⟩ := row j hj
    exact ⟨ad, e, As j, _, cs j, rfl, ok j hj, sub j hj, h⟩
theorem getD_memK {l : List Kx} {j : Nat} (hj : j < l.length) : l.getD j k0 ∈ l := by
  have e : l.getD j k0 = l[j] := by simp [hj]
  rw [e]; exact List.getElem_mem hj
/-- The cells of a tree's box. -/
theorem box6 {W : World} {q : Nat} {t : TypeId} {a b c d e f : Value} (h : BoxS W q t #[a, b, c, d, e, f]) : W.cell? ⟨q, 0, none⟩ = some a ∧ W.cell? ⟨q, 1, none⟩ = some b ∧ W.cell? ⟨q, 2, none⟩ = some c ∧ W.cell? ⟨q, 3, none⟩ = some d ∧ W.cell? ⟨q, 4, none⟩ = some e ∧ W.cell? ⟨q, 5, none⟩ = some f :=
  ⟨(h.cell 0).trans rfl, (h.cell 1).trans rfl, (h.cell 2).trans rfl, (h.cell 3).trans rfl, (h.cell 4).trans rfl, (h.cell 5).trans rfl⟩
/-- A world in which a tree lies in a box. -/
def KS (w X : World) (e : Kx) (A : Option Addr) (n c : Nat) : Prop := Below w.heap.size w X ∧ BoxS X w.heap.size 45 (kxC e A n c) ∧ KrR X A c e.l
theorem KS.new {w : World} {e : Kx} {A : Option Addr} {n c : Nat} (R : KrR w A c e.l) : KS w (w.alloc (.cells (kxC e A n c) 45)) e A n c := ⟨bal (b0 w) _, boxS_new w _ _, R.keep (bal (b0 w) _)⟩
theorem KS.step {w X Y : World} {e : Kx} {A : Option Addr} {n c : Nat} (h : KS w X e A n c) (b : Below X.heap.size X Y) : KS w Y e A n c := ⟨blw h.1 b, h.2.1.below b, h.2.2.keep b⟩
theorem KS.bel {w X : World} {e : Kx} {A : Option Addr} {n c : Nat} (h : KS w X e A n c) : Below w.heap.size w X := h.1
theorem KS.tr {w X : World} {e : Kx} {A : Option Addr} {n c : Nat} (h : KS w X e A n c) : KrR X A c e.l := h.2.2
theorem KS.box {w X : World} {e : Kx} {A : Option Addr} {n c : Nat} (h : KS w X e A n c) : X.cell? ⟨w.heap.size, 0, none⟩ = some (.int .u8 (e.k : Int)) ∧ X.cell? ⟨w.heap.size, 1, none⟩ = some (.int .u8 (e.o : Int)) ∧ X.cell? ⟨w.heap.size, 2, none⟩ = some (.int .u8 (e.t : Int)) ∧ X.cell? ⟨w.heap.size, 3, none⟩ = some (.int .i32 e.n) ∧ X.cell? ⟨w.heap.size, 4, none⟩ = some (.int .i64 e.v) ∧ X.cell? ⟨w.heap.size, 5, none⟩ = some (.slice A n c) := box6 h.2.1
/-! ### Numbers that may wrap around -/
theorem wrap_add (a b : Int) : IntKind.i64.wrap (IntKind.i64.wrap a + IntKind.i64.wrap b) = IntKind.i64.wrap (a + b) := by
  simp only [IntKind.wrap_i64]
  omega
theorem wrap_rng (a : Int) : -9223372036854775808 ≤ IntKind.i64.wrap a ∧ IntKind.i64.wrap a ≤ 9223372036854775807 := by
  simp only [IntKind.wrap_i64]
  omega
end Go.Proofs.YtblckajejohlbaaDoor
/- Trees whose blocks are known; worlds of which one block has turned; a box that is written. -/
set_option linter.unusedVariables false
set_option linter.unusedSimpArgs false
namespace Go.Proofs.YtblckajejohlbaaDoor
open Go Go.RowKit L8 L22

/-- A slice of trees that can be read, its memory in blocks that N allows. -/
inductive KrN (w : World) (N : Nat → Prop) : Option Addr → Nat → List Kx → Prop
  | mk {A : Option Addr} {c : Nat} {l : List Kx} (As : Nat → Option Addr) (cs : Nat → Nat) (le : l.length ≤ c) (mx : c ≤ maxLen) (ok : ∀ j, j < l.length → OKk (l.getD j k0))
      (row : ∀ j, j < l.length → ∃ ad, A = some ad ∧ N ad.block ∧ KxAt w (ad.add (j * 6)) (l.getD j k0) (As j) (cs j)) (sub : ∀ j, j < l.length → KrN w N (As j) (cs j) (l.getD j k0).l) : KrN w N A c l
theorem KrN.tr {w : World} {N : Nat → Prop} {A : Option Addr} {c : Nat} {l : List Kx} (h : KrN w N A c l) : KrR w A c l := by
  induction h with
  | mk As cs le mx ok row sub ih => exact .mk As cs le mx ok (fun j hj => by obtain ⟨ad, e, _, h⟩ := row j hj; exact ⟨ad, e, h⟩) ih
theorem KrN.mono {w : World} {N M : Nat → Prop} {A : Option Addr} {c : Nat} {l : List Kx} (h : KrN w N A c l) (k : ∀ b, b < w.heap.size → N b → M b) : KrN w M A c l := by
  induction h with
  | mk As cs le mx ok row sub ih =>
    exact .mk As cs le mx ok (fun j hj => by
      obtain ⟨ad, e, n, h⟩ := row j hj
      have hb := g_lt h.1
      rw [add_block] at hb
      exact ⟨ad, e, k _ hb n, h⟩) ih
theorem KrN.keep {w w' : World} {N : Nat → Prop} {A : Option Addr} {c : Nat} {l : List Kx} (h : KrN w N A c l) (b : Below w.heap.size w w') : KrN w' N A c l := by
  induction h with
  | mk As cs le mx ok row sub ih => exact .mk As cs le mx ok (fun j hj => by obtain ⟨ad, e, n, h⟩ := row j hj; exact ⟨ad, e, n, h.keep b⟩) ih
theorem KxAt.grow {w w' : World} {o : Option Nat} {p : Addr} {e : Kx} {A : Option Addr} {c : Nat} (h : KxAt w p e A c) (g : w.grownBy w' o) (hp : some p.block ≠ o) : KxAt w' p e A c := by
  obtain ⟨h0, h1, h2, h3, h4, h5⟩ := h
  exact ⟨g.cell h0 hp, g.cell h1 hp, g.cell h2 hp, g.cell h3 hp, g.cell h4 hp, g.cell h5 hp⟩
theorem KrN.grow {w w' : World} {N : Nat → Prop} {o : Option Nat} {A : Option Addr} {c : Nat} {l : List Kx} (h : KrN w N A c l) (g : w.grownBy w' o) (hN : ∀ b, N b → some b ≠ o) : KrN w' N A c l := by
  induction h with
  | mk As cs le mx ok row sub ih => exact .mk As cs le mx ok (fun j hj => by obtain ⟨ad, e, n, h⟩ := row j hj; exact ⟨ad, e, n, h.grow g (by rw [add_block]; exact hN _ n)⟩) ih
theorem KrN.nil (w : World) (N : Nat → Prop) : KrN w N none 0 [] := .mk (fun _ => none) (fun _ => 0) (Nat.le_refl _) (by simp [maxLen]) (fun j h => absurd h (by simp)) (fun j h => absurd h (by simp)) (fun j h => absurd h (by simp))
/-- Only blocks that P allows have turned, and new ones. -/
structure Fr (w w' : World) (P : Nat → Prop) : Prop where
  os : w'.os = w.os
  tape : w'.tape = w.tape
  output : w'.output = w.output
  size : w.heap.size ≤ w'.heap.size
  block : ∀ k, k < w.heap.size → ¬ P k → w'.heap[k]? = w.heap[k]?
theorem Fr.below {w w' : World} {P : Nat → Prop} {n : Nat} (h : Fr w w' P) (hn : n ≤ w.heap.size) (hP : ∀ k, P k → n ≤ k) : Below n w w' :=
  ⟨h.os, h.tape, h.output, h.size, fun k hk => h.block k (by omega) fun p => by have := hP k p; omega⟩
theorem Fr.of {w w' : World} (b : Below w.heap.size w w') (P : Nat → Prop) : Fr w w' P := ⟨b.os, b.tape, b.output, b.size, fun k hk _ => b.block k hk⟩
theorem Fr.ofG {w w' : World} {r : Option Nat} (g : w.grownBy w' r) {P : Nat → Prop} (h : ∀ k, r = some k → P k) : Fr w w' P := ⟨g.os, g.tape, g.output, g.size, fun k hk hp => g.block k hk fun e => hp (h k e.symm)⟩
theorem Fr.trans {a b c : World} {P Q R : Nat → Prop} (h : Fr a b P) (g : Fr b c Q) (hP : ∀ k, P k → R k) (hQ : ∀ k, k < a.heap.size → Q k → R k) : Fr a c R :=
  ⟨g.os.trans h.os, g.tape.trans h.tape, g.output.trans h.output, Nat.le_trans h.size g.size, fun k hk hr => (g.block k (Nat.lt_of_lt_of_le hk h.size) fun q => hr (hQ k hk q)).trans (h.block k hk fun p => hr (hP k p))⟩
theorem Fr.refl (w : World) (P : Nat → Prop) : Fr w w P := Fr.of (b0 w) P
theorem Fr.obj {w w' : World} {P : Nat → Prop} (h : Fr w w' P) {k : Nat} {o : Obj} (e : w.heap[k]? = some o) (hp : ¬ P k) : w'.heap[k]? = some o := (h.block k (Array.getElem?_eq_some_iff.1 e).1 hp).trans e
theorem Fr.cell {w w' : World} {P : Nat → Prop} (h : Fr w w' P) {p : Addr} {v : Value} (c : w.cell? p = some v) (hp : ¬ P p.block) : w'.cell? p = some v := by
  unfold World.cell? at *
  rw [h.block p.block (g_lt (w := w) (p := p) (v := v) (by unfold World.cell?; exact c)) hp]
  exact c
theorem Fr.box {w w' : World} {P : Nat → Prop} (h : Fr w w' P) {k : Nat} {t : TypeId} {cs : Array Value} (c : BoxS w k t cs) (hp : ¬ P k) : BoxS w' k t cs := h.obj c hp
theorem KxAt.fr {w w' : World} {P : Nat → Prop} {p : Addr} {e : Kx} {A : Option Addr} {c : Nat} (h : KxAt w p e A c) (g : Fr w w' P) (hp : ¬ P p.block) : KxAt w' p e A c := by
  obtain ⟨h0, h1, h2, h3, h4, h5⟩ := h
  exact ⟨g.cell h0 hp, g.cell h1 hp, g.cell h2 hp, g.cell h3 hp, g.cell h4 hp, g.cell h5 hp⟩
theorem KrN.fr {w w' : World} {P N : Nat → Prop} {A : Option Addr} {c : Nat} {l : List Kx} (h : KrN w N A c l) (g : Fr w w' P) (hN : ∀ k, k < w.heap.size → N k → ¬ P k) : KrN w' N A c l := by
  induction h with
  | mk As cs le mx ok row sub ih =>
    exact .mk As cs le mx ok (fun j hj => by
      obtain ⟨ad, e, n, h⟩ := row j hj
      have hb := g_lt h.1
      rw [add_block] at hb
      exact ⟨ad, e, n, h.fr g (by rw [add_block]; exact hN _ hb n)⟩) ih
theorem KrR.toN {w : World} {A : Option Addr} {c : Nat} {l : List Kx} (h : KrR w A c l) {N : Nat → Prop} (hN : ∀ k, k < w.heap.size → N k) : KrN w N A c l := by
  induction h with
  | mk As cs le mx ok row sub ih =>
    exact .mk As cs le mx ok (fun j hj => by
      obtain ⟨ad, e, h⟩ := row j hj
      have hb := g_lt h.1
      rw [add_block] at hb
      exact ⟨ad, e, hN _ hb, h⟩) ih
def set6 (W : World) (B : Nat) (a b c d e f : Value) : World := (((((W.setCell ⟨B, 0, none⟩ a).setCell ⟨B, 1, none⟩ b).setCell ⟨B, 2, none⟩ c).setCell ⟨B, 3, none⟩ d).setCell ⟨B, 4, none⟩ e).setCell ⟨B, 5, none⟩ f
theorem boxset {W : World} {B : Nat} {t : TypeId} {cs : Array Value} (h : BoxS W B t cs) (j : Nat) (v : Value) : BoxS (W.setCell ⟨B, j, none⟩ v) B t (cs.setIfInBounds j v) := by
  obtain ⟨hlt, hk⟩ := Array.getElem?_eq_some_iff.1 (show W.heap[B]? = _ from h)
  show (W.heap.modify B _)[B]? = _
  rw [Array.getElem?_eq_getElem (by rw [Array.size_modify]; exact hlt), Array.getElem_modify_self, hk]
  rfl
theorem box6_all {W : World} {B : Nat} {t : TypeId} {a' b' c' d' e' f' : Value} (a b c d e f : Value) (h : BoxS W B t #[a', b', c', d', e', f']) : BoxS (set6 W B a b c d e f) B t #[a, b, c, d, e, f] := by
  have := boxset (boxset (boxset (boxset (boxset (boxset h 0 a) 1 b) 2 c) 3 d) 4 e) 5 f
  unfold set6
  simpa using this
theorem box6f {W : World} {B : Nat} {t : TypeId} {cs : Array Value} (h : BoxS W B t cs) : W.frozen? ⟨B, 0, none⟩ = false ∧ W.frozen? ⟨B, 1, none⟩ = false ∧ W.frozen? ⟨B, 2, none⟩ = false ∧ W.frozen? ⟨B, 3, none⟩ = false ∧ W.frozen? ⟨B, 4, none⟩ = false ∧ W.frozen? ⟨B, 5, none⟩ = false :=
  ⟨h.frozen 0, h.frozen 1, h.frozen 2, h.frozen 3, h.frozen 4, h.frozen 5⟩
theorem bset6 {n : Nat} {w W : World} (h : Below n w W) {B : Nat} (hB : n ≤ B) (a b c d e f : Value) : Below n w (set6 W B a b c d e f) := bset (bset (bset (bset (bset (bset h hB _) hB _) hB _) hB _) hB _) hB _
theorem fr_set6 (W : World) (g : Nat) (a b c d e f : Value) : Fr W (set6 W g a b c d e f) (fun k => k = g) := by
  have key : ∀ (X : World) (j : Nat) (v : Value), Fr X (X.setCell ⟨g, j, none⟩ v) (fun k => k = g) := fun X j v =>
    ⟨rfl, rfl, rfl, by show _ ≤ (X.heap.modify g _).size; rw [Array.size_modify]; exact Nat.le_refl _, fun k hk hr => Below.heap_setCell X ⟨g, j, none⟩ v k (fun e => hr (by rw [show k = g from e]))⟩
  have tr : ∀ {X Y Z : World}, Fr X Y (fun k => k = g) → Fr Y Z (fun k => k = g) → Fr X Z (fun k => k = g) := fun h k => h.trans k (fun _ h => h) fun _ _ h => h
  unfold set6
  exact tr (tr (tr (tr (tr (key _ _ _) (key _ _ _)) (key _ _ _)) (key _ _ _)) (key _ _ _)) (key _ _ _)
end Go.Proofs.YtblckajejohlbaaDoor
/- Contracts of the integer functions of package word and of its reference: what each returns, for all words. -/
set_option linter.unusedVariables false
set_option linter.unusedSimpArgs false
namespace Go.Proofs.YtblckajejohlbaaDoor.W1
open Go Go.RowKit

/-- The number does not fit into a word. -/
def overB (x : Int) : Bool := !(decide (-2147483648 ≤ x) && decide (x < 2147483648))

theorem ret_ib {k : IntKind} {a b : Int} {p q : Bool} (h : a = b) (h' : p = q) : Ending.returned (.tuple #[.int k a, .bool p]) = .returned (.tuple #[.int k b, .bool q]) := by rw [h, h']
theorem ret_i {k : IntKind} {a b : Int} (h : a = b) : Ending.returned (.int k a) = .returned (.int k b) := by rw [h]
theorem ret_b {p q : Bool} (h : p = q) : Ending.returned (.bool p) = .returned (.bool q) := by rw [h]

theorem red64_any (x : Int) (w : World) : Calls Tryd.prog 137 #[.int .i64 x] w fun e w' => e = .returned (.int .i32 (wrap32 x)) ∧ w = w' := by
  go_enter Tryd.func137, Tryd.ntmps137
  go_wp2
  go_ret
  exact ⟨rfl, rfl⟩
theorem redu_any (x : Int) (w : World) : Calls Tryd.prog 135 #[.int .u32 x] w fun e w' => e = .returned (.int .i32 (wrap32 x)) ∧ w = w' := by
  go_enter Tryd.func135, Tryd.ntmps135
  go_wp2
  go_ret
  exact ⟨rfl, rfl⟩
theorem wrap32_over (x : Int) : (wrap64 (wrap32 x) != x) = overB x := by
  unfold overB wrap64 wrap32
  by_cases h : -2147483648 ≤ x <;> by_cases h' : x < 2147483648 <;> simp [h, h'] <;> omega
theorem redOver_any (x : Int) (w : World) : Calls Tryd.prog 136 #[.int .i64 x] w fun e w' => e = .returned (.tuple #[.int .i32 (wrap32 x), .bool (overB x)]) ∧ w = w' := by
  go_enter Tryd.func136, Tryd.ntmps136
  go_wp2_with (go_at_call 137; refine (red64_any _ _).mono ?_; rintro e w' ⟨rfl, rfl⟩)
  go_ret2
  exact ⟨ret_ib rfl (wrap32_over x), rfl⟩

/-- A word. -/
def isW (a : Int) : Prop := -2147483648 ≤ a ∧ a ≤ 2147483647
theorem isW_wrap32 (x : Int) : isW (wrap32 x) := by unfold isW wrap32; omega
theorem isW_of_wf {a : Int} (h : (Lit.int .i32 a).wf = true) : isW a := by
  simp only [Lit.wf, IntKind.min, IntKind.max, IntKind.signed, IntKind.bits, Bool.and_eq_true, decide_eq_true_eq, if_true] at h
  exact ⟨by omega, by omega⟩

theorem Add_any (a b : Int) (ha : isW a) (hb : isW b) (w : World) : Calls Tryd.prog 122 #[.int .i32 a, .int .i32 b] w fun e w' => e = .returned (.tuple #[.int .i32 (wrap32 (a + b)), .bool (overB (a + b))]) ∧ w = w' := by
  unfold isW at ha hb
  obtain ⟨a0, a1⟩ := ha
  obtain ⟨b0, b1⟩ := hb
  go_enter Tryd.func122, Tryd.ntmps122
  go_wp2_with (go_at_call 136; refine (redOver_any _ _).mono ?_; rintro e w' ⟨rfl, rfl⟩)
  go_ret2
  exact ⟨rfl, rfl⟩
theorem Sub_any (a b : Int) (ha : isW a) (hb : isW b) (w : World) : Calls Tryd.prog 123 #[.int .i32 a, .int .i32 b] w fun e w' => e = .returned (.tuple #[.int .i32 (wrap32 (a - b)), .bool (overB (a - b))]) ∧ w = w' := by
  unfold isW at ha hb
  obtain ⟨a0, a1⟩ := ha
  obtain ⟨b0, b1⟩ := hb
  go_enter Tryd.func123, Tryd.ntmps123
  go_wp2_with (go_at_call 136; refine (redOver_any _ _).mono ?_; rintro e w' ⟨rfl, rfl⟩)
  go_ret2
  exact ⟨rfl, rfl⟩
theorem mul_bd {a b : Int} (ha : isW a) (hb : isW b) : -4611686018427387904 ≤ a * b ∧ a * b ≤ 4611686018427387904 := by
  unfold isW at ha hb
  have h1 : a.natAbs ≤ 2147483648 := by omega
  have h2 : b.natAbs ≤ 2147483648 := by omega
  have h3 : (a * b).natAbs ≤ 2147483648 * 2147483648 := by rw [Int.natAbs_mul]; exact Nat.mul_le_mul h1 h2
  omega
theorem Mul_any (a b : Int) (ha : isW a) (hb : isW b) (w : World) : Calls Tryd.prog 124 #[.int .i32 a, .int .i32 b] w fun e w' => e = .returned (.tuple #[.int .i32 (wrap32 (a * b)), .bool (overB (a * b))]) ∧ w = w' := by
  have hm := mul_bd ha hb
  unfold isW at ha hb
  obtain ⟨a0, a1⟩ := ha
  obtain ⟨b0, b1⟩ := hb
  obtain ⟨m0, m1⟩ := hm
  go_enter Tryd.func124, Tryd.ntmps124
  go_wp2_with (go_at_call 136; refine (redOver_any _ _).mono ?_; rintro e w' ⟨rfl, rfl⟩)
  go_ret2
  exact ⟨rfl, rfl⟩
theorem Sum_any (a b : Int) (ha : isW a) (hb : isW b) (w : World) : Calls Tryd.prog 105 #[.int .i32 a, .int .i32 b] w fun e w' => e = .returned (.int .i32 (wrap32 (a + b))) ∧ w = w' := by
  go_enter Tryd.func105, Tryd.ntmps105
  go_wp2_with (go_at_call 122; refine (Add_any _ _ ha hb _).mono ?_; rintro e w' ⟨rfl, rfl⟩)
  go_ret
  exact ⟨rfl, rfl⟩
theorem Diff_any (a b : Int) (ha : isW a) (hb : isW b) (w : World) : Calls Tryd.prog 106 #[.int .i32 a, .int .i32 b] w fun e w' => e = .returned (.int .i32 (wrap32 (a - b))) ∧ w = w' := by
  go_enter Tryd.func106, Tryd.ntmps106
  go_wp2_with (go_at_call 123; refine (Sub_any _ _ ha hb _).mono ?_; rintro e w' ⟨rfl, rfl⟩)
  go_ret
  exact ⟨rfl, rfl⟩
theorem Prod_any (a b : Int) (ha : isW a) (hb : isW b) (w : World) : Calls Tryd.prog 107 #[.int .i32 a, .int .i32 b] w fun e w' => e = .returned (.int .i32 (wrap32 (a * b))) ∧ w = w' := by
  go_enter Tryd.func107, Tryd.ntmps107
  go_wp2_with (go_at_call 124; refine (Mul_any _ _ ha hb _).mono ?_; rintro e w' ⟨rfl, rfl⟩)
  go_ret
  exact ⟨rfl, rfl⟩
/-- After: the difference is above 0. -/
def aftB (a b : Int) : Bool := decide (0 < wrap32 (a - b))
theorem After_any (a b : Int) (ha : isW a) (hb : isW b) (w : World) : Calls Tryd.prog 119 #[.int .i32 a, .int .i32 b] w fun e w' => e = .returned (.bool (aftB a b)) ∧ w = w' := by
  go_enter Tryd.func119, Tryd.ntmps119
  go_wp2_with (go_at_call 106; refine (Diff_any _ _ ha hb _).mono ?_; rintro e w' ⟨rfl, rfl⟩)
  go_ret
  exact ⟨ret_b rfl, rfl⟩
/-- The quotient, the remainder; whether there is none. -/
def divB (a b : Int) : Bool := (b == 0) || ((a == -2147483648) && (b == -1))
def divR (a b : Int) : Int := if divB a b = true then 0 else a.tdiv b
theorem tdiv_bd {a b : Int} (ha : isW a) (hb : ¬ b = 0) (h : ¬ (a = -2147483648 ∧ b = -1)) : isW (a.tdiv b) := by
  unfold isW at *
  obtain ⟨a0, a1⟩ := ha
  have hn : (a.tdiv b).natAbs = a.natAbs / b.natAbs := Int.natAbs_tdiv ..
  by_cases hb1 : b.natAbs = 1
  · rw [hb1, Nat.div_one] at hn
    rcases (show b = 1 ∨ b = -1 by omega) with rfl | rfl
    · rw [Int.tdiv_one]; exact ⟨a0, a1⟩
    · have : a ≠ -2147483648 := fun e => h ⟨e, rfl⟩
      omega
  · have h2 : a.natAbs / b.natAbs ≤ a.natAbs / 2 := Nat.div_le_div_left (by omega) (by omega)
    omega
theorem wrap32_in {x : Int} (h : isW x) : wrap32 x = x := by unfold isW at h; unfold wrap32; omega
theorem Div_any (a b : Int) (ha : isW a) (w : World) : Calls Tryd.prog 125 #[.int .i32 a, .int .i32 b] w fun e w' => e = .returned (.tuple #[.int .i32 (divR a b), .bool (divB a b)]) ∧ w = w' := by
  by_cases hb : b = 0
  · subst hb
    go_enter Tryd.func125, Tryd.ntmps125
    go_wp2
    go_ret2
    exact ⟨ret_ib rfl rfl, rfl⟩
  · have h1 : (b == 0) = false := by simpa using hb
    cases h2 : (a == -2147483648) <;> cases h3 : (b == -1)
    case true.true =>
      go_enter Tryd.func125, Tryd.ntmps125
      go_wp2
      go_ret2
      exact ⟨ret_ib (by unfold divR divB; rw [h2, h3]; simp) (by unfold divB; rw [h2, h3]; simp), rfl⟩
    all_goals
      have hw := tdiv_bd ha hb (by rintro ⟨rfl, rfl⟩; first | (exact absurd h2 (by decide)) | (exact absurd h3 (by decide)))
      have hd : divB a b = false := by unfold divB; rw [h1, h2, h3]; rfl
      go_enter Tryd.func125, Tryd.ntmps125
      go_wp2
      go_ret2
      exact ⟨ret_ib (by unfold divR; rw [wrap32_in hw, hd]; simp) hd.symm, rfl⟩
def remR (a b : Int) : Int := if b == 0 then 0 else a.tmod b
theorem tmod_bd {a b : Int} (ha : isW a) : isW (a.tmod b) := by
  unfold isW at *
  have hn : (a.tmod b).natAbs = a.natAbs % b.natAbs := Int.natAbs_tmod ..
  have hm : a.natAbs % b.natAbs ≤ a.natAbs := Nat.mod_le ..
  obtain ⟨a0, a1⟩ := ha
  rcases Int.le_total 0 a with h | h
  · have := Int.tmod_nonneg b h
    omega
  · have := Int.tmod_nonneg (a := -a) b (by omega)
    rw [Int.neg_tmod] at this
    omega
theorem Rem_any (a b : Int) (ha : isW a) (hb' : isW b) (w : World) : Calls Tryd.prog 126 #[.int .i32 a, .int .i32 b] w fun e w' => e = .returned (.tuple #[.int .i32 (remR a b), .bool (b == 0)]) ∧ w = w' := by
  by_cases hb : b = 0
  · subst hb
    go_enter Tryd.func126, Tryd.ntmps126
    go_wp2
    go_ret2
    exact ⟨ret_ib rfl rfl, rfl⟩
  · have h1 : (b == 0) = false := by simpa using hb
    have hw := tmod_bd (b := b) ha
    unfold isW at ha hb'
    go_enter Tryd.func126, Tryd.ntmps126
    go_wp2_with (go_at_call 137; refine (red64_any _ _).mono ?_; rintro e w' ⟨rfl, rfl⟩)
    go_ret2
    exact ⟨ret_ib (by unfold remR; rw [wrap32_in hw, h1]; simp) h1.symm, rfl⟩
/-- The number of places that counts. -/
def plc (n : Int) : Nat := min (n % 4294967296).toNat 32
def shlR (a n : Int) : Int := wrap32 (a * 2 ^ plc n)
def shrR (a n : Int) : Int := wrap32 ((a % 4294967296) / 2 ^ plc n)
theorem shl_form (a x : Int) : wrap32 (IntKind.u32.wrap (a % 4294967296 * x)) = wrap32 (a * x) := by
  rw [IntKind.wrap_u32, show a = a % 4294967296 + 4294967296 * (a / 4294967296) by omega]
  generalize a / 4294967296 = q
  generalize a % 4294967296 = r
  have h1 : (r + 4294967296 * q) % 4294967296 = r % 4294967296 := by omega
  rw [h1]
  have h2 : (r + 4294967296 * q) * x = r * x + 4294967296 * (q * x) := by rw [Int.add_mul, Int.mul_assoc]
  rw [h2]
  have h3 : (r % 4294967296 * x) % 4294967296 = (r * x) % 4294967296 := by rw [Int.mul_emod, Int.emod_emod_of_dvd _ (Int.dvd_refl _), ← Int.mul_emod]
  rw [h3]
  unfold wrap32
  omega
theorem Shl_any (a b : Int) (w : World) : Calls Tryd.prog 111 #[.int .i32 a, .int .i32 b] w fun e w' => e = .returned (.int .i32 (shlR a b)) ∧ w = w' := by
  have hp : 0 ≤ b % 4294967296 := by omega
  go_enter Tryd.func111, Tryd.ntmps111
  go_wp2_with (go_at_call 135; refine (redu_any _ _).mono ?_; rintro e w' ⟨rfl, rfl⟩)
  go_ret
  exact ⟨ret_i (shl_form a _), rfl⟩
theorem Shr_any (a b : Int) (w : World) : Calls Tryd.prog 112 #[.int .i32 a, .int .i32 b] w fun e w' => e = .returned (.int .i32 (shrR a b)) ∧ w = w' := by
  have hp : 0 ≤ b % 4294967296 := by omega
  go_enter Tryd.func112, Tryd.ntmps112
  go_wp2_with (go_at_call 135; refine (redu_any _ _).mono ?_; rintro e w' ⟨rfl, rfl⟩)
  go_ret
  exact ⟨ret_i rfl, rfl⟩
def xwR (a b : Int) : Int := if a % 4294967296 < b % 4294967296 then a else wrap32 (a - 2 * b)
def cwB (a b : Int) : Bool := decide (b ≤ a) || decide (a < wrap32 (0 - b))
end Go.Proofs.YtblckajejohlbaaDoor.W1
