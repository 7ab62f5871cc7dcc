/- Constants: operators on words, the value of an expression, what it folds to, what names mean in an environment. Plain Lean. -/
import Derived.Test.YtblckajejohlbaaDoorExd
import Derived.Laws.Entries
set_option linter.unusedVariables false
set_option linter.unusedSimpArgs false
set_option linter.unusedVariables false
set_option linter.unusedSimpArgs false
namespace Go.Proofs.YtblckajejohlbaaDoor.L14
open Go L8 L10

def inW (x : Int) : Prop := -2147483648 ≤ x ∧ x ≤ 2147483647
def fitO (x : Int) : Option Int := if -2147483648 ≤ x ∧ x ≤ 2147483647 then some x else none
def b01 (p : Bool) : Int := if p = true then 1 else 0
def isT (a : Int) : Bool := decide (a = 0) || decide (a = 1)
def plcW (n : Int) : Nat := min (n % 4294967296).toNat 32
def w32 (n : Int) : Int := (n + 2147483648) % 4294967296 - 2147483648
/-- The value of an operator. -/
def apO (o : Nat) (a b : Int) : Option Int :=
  if o = 1 then fitO (a + b) else if o = 2 then fitO (a - b) else if o = 3 then fitO (a * b)
  else if o = 4 then (if b = 0 ∨ (a = -2147483648 ∧ b = -1) then none else some (a.tdiv b))
  else if o = 5 then (if b = 0 then none else some (a.tmod b))
  else if o = 6 then some (w32 (a + b)) else if o = 7 then some (w32 (a - b)) else if o = 8 then some (w32 (a * b))
  else if o = 9 then some (bits .and .i32 a b) else if o = 10 then some (bits .or .i32 a b) else if o = 11 then some (bits .xor .i32 a b)
  else if o = 12 then some (w32 (a * 2 ^ plcW b)) else if o = 13 then some (w32 ((a % 4294967296) / 2 ^ plcW b))
  else if o = 14 then some (b01 (decide (a = b))) else if o = 15 then some (b01 (decide (a ≠ b))) else if o = 16 then some (b01 (decide (a < b)))
  else if o = 17 then some (b01 (decide (b < a))) else if o = 18 then some (b01 (decide (a ≤ b))) else if o = 19 then some (b01 (decide (b ≤ a)))
  else if o = 20 then (if isT a = true ∧ isT b = true then some (b01 (decide (a = 1 ∧ b = 1))) else none)
  else if o = 21 then (if isT a = true ∧ isT b = true then some (b01 (decide (a = 1 ∨ b = 1))) else none)
  else if o = 22 then some (b01 (decide (0 < w32 (a - b))))
  else if o = 23 then fitO (0 - a) else if o = 24 then some (w32 (0 - a)) else if o = 25 then some (bits .xor .i32 (-1) a)
  else if o = 26 then (if isT a = true then some (1 - a) else none) else none
def conO (t : Nat) (v : Int) : Option Int := if t = 1 ∨ (t = 2 ∧ 0 ≤ v ∧ v ≤ 255) ∨ (t = 3 ∧ (v = 0 ∨ v = 1)) then some v else none
def ops2 : List (Option Int) → Option (Int × Int)
  | [some a] => some (a, 0)
  | [some a, some b] => some (a, b)
  | _ => none
def hd1 : List (Option Int) → Option Int
  | x :: _ => x
  | [] => none
def valO (k o t : Nat) (n : Int) (x y : Option Int) (vs : List (Option Int)) : Option Int :=
  if k = 1 ∨ k = 2 ∨ k = 3 then some n
  else if k = 4 then x else if k = 9 then y
  else if k = 6 ∨ k = 7 then (ops2 vs).bind fun p => apO o p.1 p.2
  else if k = 8 then (hd1 vs).bind (conO t) else none
mutual
def valE (p q : Bs → Option Int) : Ex → Option Int
  | .mk k o t n s l => valO k o t n (p s) (q s) (valL p q l)
def valL (p q : Bs → Option Int) : List Ex → List (Option Int)
  | [] => []
  | x :: r => valE p q x :: valL p q r
end
theorem valE_eq (p q : Bs → Option Int) (e : Ex) : valE p q e = valO e.k e.o e.t e.n (p e.s) (q e.s) (valL p q e.l) := by cases e; rw [valE]; rfl
theorem valL_map (p q : Bs → Option Int) (l : List Ex) : valL p q l = l.map (valE p q) := by
  induction l with
  | nil => rw [valL]; rfl
  | cons x r ih => rw [valL, ih]; rfl
/-! ### Folding -/
def litT (t : Nat) : Nat := if t = 2 then 2 else if t = 3 then 3 else 1
def litK (k o t u : Nat) : Nat := if k = 2 ∨ k = 3 then k else if k = 8 then litT t else if k = 4 then litT u else if (k = 6 ∨ k = 7) ∧ ((14 ≤ o ∧ o ≤ 22) ∨ o = 26) then 3 else 1
def litE (K : Nat) (v : Int) : Ex := .mk K 0 0 v [] []
def fldO (r : Option Int) (K : Nat) (e : Ex) : Ex := match r with
  | some v => if mayE (litE K v) = true then litE K v else e
  | none => e
mutual
def foldE (p q : Bs → Option Int) (u : Bs → Nat) : Ex → Ex
  | .mk k o t n s l => fldO (valO k o t n (p s) (q s) (valL p q l)) (litK k o t (u s)) (.mk k o t n s (foldL p q u l))
def foldL (p q : Bs → Option Int) (u : Bs → Nat) : List Ex → List Ex
  | [] => []
  | x :: r => foldE p q u x :: foldL p q u r
end
theorem foldE_eq (p q : Bs → Option Int) (u : Bs → Nat) (e : Ex) : foldE p q u e = fldO (valE p q e) (litK e.k e.o e.t (u e.s)) (.mk e.k e.o e.t e.n e.s (foldL p q u e.l)) := by cases e; rw [foldE, valE]; rfl
theorem foldL_map (p q : Bs → Option Int) (u : Bs → Nat) (l : List Ex) : foldL p q u l = l.map (foldE p q u) := by
  induction l with
  | nil => rw [foldL]; rfl
  | cons x r ih => rw [foldL, ih]; rfl
/-! ### Environments, the innermost specification first -/
structure Sp where
  k : Nat
  t : Nat
  d : Int
  ns : List Bs
  e : Ex
def sp0 : Sp := ⟨0, 0, 0, [], e0⟩
def vald (x : Sp) : Bool := decide (x.k = 2) && mayE x.e
def szS (x : Sp) : Option Int := if x.k = 1 ∧ 1 ≤ x.d ∧ x.d ≤ 2147483647 then some x.d else none
abbrev Mg := Bs → Option (Sp × Option Int)
def rho (m : Mg) (s : Bs) : Option Int := (m s).bind (·.2)
def sig (m : Mg) (s : Bs) : Option Int := (m s).bind fun p => szS p.1
def tau (m : Mg) (s : Bs) : Nat := match m s with
  | some p => p.1.t
  | none => 0
/-- What the names of specifications mean. -/
def entS (m : Mg) (x : Sp) : Sp × Option Int := (x, if vald x = true then valE (rho m) (sig m) x.e else none)
def mgS : List Sp → Mg
  | [] => fun _ => none
  | x :: r => fun s => if s ∈ x.ns then some (entS (mgS r) x) else mgS r s
theorem mgS_in {x : Sp} {r : List Sp} {s : Bs} (h : s ∈ x.ns) : mgS (x :: r) s = some (entS (mgS r) x) := if_pos h
theorem mgS_out {x : Sp} {r : List Sp} {s : Bs} (h : ¬ s ∈ x.ns) : mgS (x :: r) s = mgS r s := if_neg h
def vOf (m : Mg) (e : Ex) : Option Int := valE (rho m) (sig m) e
def fOf (m : Mg) (e : Ex) : Ex := foldE (rho m) (sig m) (tau m) e
def constX (e : Ex) (r : List Sp) : Int × Int := if mayE e = true then (match vOf (mgS r) e with
  | some v => (v, 0)
  | none => (0, 140)) else (0, 2)
def foldX (e : Ex) (r : List Sp) : Ex × Int := if mayE e = true then (fOf (mgS r) e, 0) else (e0, 2)
/-! ### The specifications that are needed -/
def hitS (M : Bs → Bool) (x : Sp) : Bool := x.ns.any M
def updS (M : Bs → Bool) (x : Sp) : Bs → Bool := fun s => (M s && !decide (s ∈ x.ns)) || (vald x && decide (s ∈ nmE x.e))
def need (M : Bs → Bool) : List Sp → List Sp
  | [] => []
  | x :: r => if hitS M x = true then x :: need (updS M x) r else need M r
theorem need_none : ∀ (r : List Sp) (M : Bs → Bool), (∀ s, M s = false) → need M r = []
  | [], _, _ => rfl
  | x :: r, M, h => by
    rw [need, if_neg (by unfold hitS; rw [List.any_eq_true]; rintro ⟨s, _, hs⟩; rw [h s] at hs; cases hs)]
    exact need_none r M h
/-! ### What a value depends on -/
theorem nm_part {e x : Ex} (h : x ∈ e.l) : ∀ s ∈ nmE x, s ∈ nmE e := by
  intro s hs
  rw [nmE_eq]
  refine List.mem_append_right _ ?_
  have : ∀ l : List Ex, x ∈ l → s ∈ nmL l := by
    intro l
    induction l with
    | nil => intro h; cases h
    | cons y r ih =>
      intro h
      rw [nmL]
      rcases List.mem_cons.1 h with rfl | h
      · exact List.mem_append_left _ hs
      · exact List.mem_append_right _ (ih h)
  exact this _ h
theorem val_own {k o t : Nat} {n : Int} {x y x' y' : Option Int} {vs : List (Option Int)} (hx : k = 4 → x = x') (hy : k = 9 → y = y') : valO k o t n x y vs = valO k o t n x' y' vs := by
  unfold valO
  by_cases h1 : k = 1 ∨ k = 2 ∨ k = 3
  · rw [if_pos h1, if_pos h1]
  rw [if_neg h1, if_neg h1]
  by_cases h2 : k = 4
  · rw [if_pos h2, if_pos h2, hx h2]
  rw [if_neg h2, if_neg h2]
  by_cases h3 : k = 9
  · rw [if_pos h3, if_pos h3, hy h3]
  rw [if_neg h3, if_neg h3]
theorem own_in {k : Nat} {s : Bs} (h : k = 4 ∨ k = 5 ∨ k = 9) : s ∈ ownNm k s := by unfold ownNm; rw [if_pos h]; exact List.mem_singleton.2 rfl
theorem nm_own {e : Ex} (h : e.k = 4 ∨ e.k = 5 ∨ e.k = 9) : e.s ∈ nmE e := by rw [nmE_eq]; exact List.mem_append_left _ (own_in h)
theorem val_cong (p q p' q' : Bs → Option Int) : ∀ e : Ex, (∀ s ∈ nmE e, p s = p' s ∧ q s = q' s) → valE p q e = valE p' q' e := by
  refine Ex.ind fun e ih h => ?_
  rw [valE_eq, valE_eq, valL_map, valL_map]
  rw [show e.l.map (valE p q) = e.l.map (valE p' q') from List.map_congr_left fun x hx => ih x hx fun s hs => h s (nm_part hx s hs)]
  exact val_own (fun hk => (h _ (nm_own (.inl hk))).1) (fun hk => (h _ (nm_own (.inr (.inr hk)))).2)
theorem fold_cong (p q p' q' : Bs → Option Int) (u u' : Bs → Nat) : ∀ e : Ex, (∀ s ∈ nmE e, p s = p' s ∧ q s = q' s ∧ u s = u' s) → foldE p q u e = foldE p' q' u' e := by
  refine Ex.ind fun e ih h => ?_
  rw [foldE_eq, foldE_eq, foldL_map, foldL_map]
  rw [show e.l.map (foldE p q u) = e.l.map (foldE p' q' u') from List.map_congr_left fun x hx => ih x hx fun s hs => h s (nm_part hx s hs)]
  rw [val_cong p q p' q' e fun s hs => ⟨(h s hs).1, (h s hs).2.1⟩]
  have : litK e.k e.o e.t (u e.s) = litK e.k e.o e.t (u' e.s) := by
    by_cases hk : e.k = 4
    · rw [(h _ (nm_own (.inl hk))).2.2]
    · unfold litK
      rw [if_neg hk, if_neg hk]
  rw [this]
theorem mg_agree {m m' : Mg} {e : Ex} (h : ∀ s ∈ nmE e, m s = m' s) : vOf m e = vOf m' e ∧ fOf m e = fOf m' e := by
  refine ⟨val_cong _ _ _ _ e fun s hs => ?_, fold_cong _ _ _ _ _ _ e fun s hs => ?_⟩
  · unfold rho sig; rw [h s hs]; exact ⟨rfl, rfl⟩
  · unfold rho sig tau; rw [h s hs]; exact ⟨rfl, rfl, rfl⟩
/-- What is needed says what is asked. -/
theorem need_is : ∀ (r : List Sp) (M : Bs → Bool) (s : Bs), M s = true → mgS (need M r) s = mgS r s
  | [], _, _, _ => rfl
  | x :: r, M, s, h => by
    rw [need]
    by_cases hh : hitS M x = true
    · rw [if_pos hh]
      by_cases hs : s ∈ x.ns
      · rw [mgS_in hs, mgS_in hs]
        unfold entS
        by_cases hv : vald x = true
        · rw [if_pos hv, if_pos hv]
          have := (mg_agree (m := mgS (need (updS M x) r)) (m' := mgS r) (e := x.e) fun s hs => need_is r _ s (by unfold updS; rw [hv, decide_eq_true hs]; simp)).1
          unfold vOf at this
          rw [this]
        · rw [if_neg hv, if_neg hv]
      · rw [mgS_out hs, mgS_out hs]
        exact need_is r _ s (by unfold updS; rw [h, decide_eq_false hs]; rfl)
    · rw [if_neg hh, need_is r M s h, mgS_out]
      intro hs
      apply hh
      unfold hitS
      rw [List.any_eq_true]
      exact ⟨s, hs, h⟩
end Go.Proofs.YtblckajejohlbaaDoor.L14
