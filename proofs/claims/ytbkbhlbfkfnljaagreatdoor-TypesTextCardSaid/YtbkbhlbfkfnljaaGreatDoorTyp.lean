/- Types, their tokens, the type with which tokens begin. Plain Lean. -/
import Derived.Test.YtbkbhlbfkfnljaaGreatDoorLxd
set_option linter.unusedVariables false
set_option linter.unusedSimpArgs false
set_option linter.unusedVariables false
set_option linter.unusedSimpArgs false
namespace Go.Proofs.YtbkbhlbfkfnljaaGreatDoor.L9
open Go L8

/-- A type: its kind (1 INT, 2 BYTE, 3 BOOL, 4 CHAN OF, 5 TIMER), its dimension, its item, its protocol's name. -/
structure Ty where
  k : Nat
  d : Int
  i : Nat
  p : Bs
deriving DecidableEq
def t0 : Ty := ⟨0, 0, 0, []⟩
def tTimer : Ty := ⟨5, 0, 0, []⟩
def prim (k : Nat) : Bool := decide (k = 1) || (decide (k = 2) || decide (k = 3))
def mayT (t : Ty) : Bool :=
  if t.d < 0 ∨ 64 < t.d then false else if prim t.k = true then decide (t.i = 0) && decide (t.p = []) else if t.k = 4 then (prim t.i && decide (t.p = [])) || (decide (t.i = 0) && isName t.p) else decide (t = tTimer)
def wInt : Bs := [73, 78, 84]
def wByte : Bs := [66, 89, 84, 69]
def wBool : Bs := [66, 79, 79, 76]
def wChan : Bs := [67, 72, 65, 78]
def wOf : Bs := [79, 70]
def wTimer : Bs := [84, 73, 77, 69, 82]
def kw (s : Bs) : Tk := ⟨2, 0, s, 0⟩
def sy (s : Bs) : Tk := ⟨5, 0, s, 0⟩
def nm (s : Bs) : Tk := ⟨1, 0, s, 0⟩
def nb (n : Int) : Tk := ⟨3, 0, [], n⟩
def wd (k : Nat) : Bs := if k = 1 then wInt else if k = 2 then wByte else wBool
def dimT (d : Int) : List Tk := if 0 < d then [sy [91], nb d, sy [93]] else []
def coreT (t : Ty) : List Tk := if t.k = 5 then [kw wTimer] else if t.k = 4 then [kw wChan, kw wOf, if t.p = [] then kw (wd t.i) else nm t.p] else [kw (wd t.k)]
def tokT (t : Ty) : List Tk := dimT t.d ++ coreT t
/-- The tokens of a type that exists; none, and ErrArg, of another one. -/
def tokensT (t : Ty) : List Tk × Int := if mayT t = true then (tokT t, 0) else ([], 2)
def wordsT (t : Ty) : Int := if mayT t = true then (if t.k = 5 then 0 else if t.d = 0 then 1 else t.d) else 0
def fits (k : Nat) (v : Int) : Bool := if k = 1 then true else if k = 2 then decide (0 ≤ v) && decide (v ≤ 255) else if k = 3 then decide (v = 0) || decide (v = 1) else false
def sizeK (k : Nat) : Int := if k = 1 then 4 else if k = 2 ∨ k = 3 then 1 else 0
/-! ### What tokens begin with -/
/-- One token is another one, but for its place. -/
def isT (x : Tk) (y : Tk) : Bool := decide (x.k = y.k ∧ x.tx = y.tx ∧ x.n = y.n)
/-- Tokens begin with others, but for the places. -/
def pre : List Tk → List Tk → Bool
  | [], _ => true
  | _ :: _, [] => false
  | y :: ys, x :: xs => isT x y && pre ys xs
def primOf (x : Tk) : Option Nat := if isT x (kw wInt) = true then some 1 else if isT x (kw wByte) = true then some 2 else if isT x (kw wBool) = true then some 3 else none
def isNm (x : Tk) : Bool := decide (x.k = 1) && isName x.tx && decide (x.n = 0)
def isNb (x : Tk) : Bool := decide (x.k = 3) && decide (x.tx = []) && decide (1 ≤ x.n) && decide (x.n ≤ 64)
/-- The kind or the name of a channel's items. -/
def itemOf (d : Int) (z : Tk) : Option Ty := match primOf z with
  | some i => some ⟨4, d, i, []⟩
  | none => if isNm z = true then some ⟨4, d, 0, z.tx⟩ else none
def core (d : Int) : List Tk → Option Ty
  | [] => none
  | x :: r => match primOf x with
    | some k => some ⟨k, d, 0, []⟩
    | none => if isT x (kw wTimer) = true then (if d = 0 then some tTimer else none)
      else if isT x (kw wChan) = true then (match r with
        | y :: z :: _ => if isT y (kw wOf) = true then itemOf d z else none
        | _ => none) else none
def front : List Tk → Option Ty
  | a :: n :: b :: r => if isT a (sy [91]) = true ∧ isNb n = true ∧ isT b (sy [93]) = true then core n.n r else core 0 (a :: n :: b :: r)
  | l => core 0 l
theorem front_cons3 (a n b : Tk) (r : List Tk) : front (a :: n :: b :: r) = if isT a (sy [91]) = true ∧ isNb n = true ∧ isT b (sy [93]) = true then core n.n r else core 0 (a :: n :: b :: r) := rfl
theorem isT_iff (x y : Tk) : isT x y = true ↔ x.k = y.k ∧ x.tx = y.tx ∧ x.n = y.n := by unfold isT; simp
theorem prim_iff (k : Nat) : prim k = true ↔ k = 1 ∨ k = 2 ∨ k = 3 := by unfold prim; simp
theorem primOf_some {x : Tk} {k : Nat} (h : primOf x = some k) : prim k = true ∧ isT x (kw (wd k)) = true := by
  unfold primOf at h
  split at h
  · rename_i h1; injection h with h; subst h; exact ⟨rfl, h1⟩
  · split at h
    · rename_i h1; injection h with h; subst h; exact ⟨rfl, h1⟩
    · split at h
      · rename_i h1; injection h with h; subst h; exact ⟨rfl, h1⟩
      · cases h
theorem primOf_of {x : Tk} {k : Nat} (hk : prim k = true) (h : isT x (kw (wd k)) = true) : primOf x = some k := by
  have hx := (isT_iff _ _).1 h
  rcases (prim_iff k).1 hk with rfl | rfl | rfl
  · have h' : isT x (kw wInt) = true := h
    unfold primOf; rw [if_pos h']
  · have h' : isT x (kw wByte) = true := h
    unfold primOf; rw [if_neg, if_pos h']
    intro h2
    have := (isT_iff _ _).1 h2
    exact absurd (this.2.1.symm.trans hx.2.1) (by decide)
  · have h' : isT x (kw wBool) = true := h
    unfold primOf; rw [if_neg, if_neg, if_pos h']
    · intro h2
      have := (isT_iff _ _).1 h2
      exact absurd (this.2.1.symm.trans hx.2.1) (by decide)
    · intro h2
      have := (isT_iff _ _).1 h2
      exact absurd (this.2.1.symm.trans hx.2.1) (by decide)
theorem primOf_word {x : Tk} {s : Bs} (h : isT x (kw s) = true) (hs : s ≠ wInt ∧ s ≠ wByte ∧ s ≠ wBool) : primOf x = none := by
  have hx := (isT_iff _ _).1 h
  have hn : ∀ u, s ≠ u → ¬ isT x (kw u) = true := fun u hu h2 => hu (hx.2.1.symm.trans ((isT_iff _ _).1 h2).2.1)
  unfold primOf; rw [if_neg (hn _ hs.1), if_neg (hn _ hs.2.1), if_neg (hn _ hs.2.2)]
theorem primOf_kind {x : Tk} (h : x.k ≠ 2) : primOf x = none := by
  have hn : ∀ u, ¬ isT x (kw u) = true := fun u h2 => h ((isT_iff _ _).1 h2).1
  unfold primOf; rw [if_neg (hn _), if_neg (hn _), if_neg (hn _)]
theorem isNm_iff (x : Tk) : isNm x = true ↔ isName x.tx = true ∧ isT x (nm x.tx) = true := by
  unfold isNm isT nm
  simp
  constructor
  · rintro ⟨⟨h1, h2⟩, h3⟩; exact ⟨h2, h1, h3⟩
  · rintro ⟨h2, h1, h3⟩; exact ⟨⟨h1, h2⟩, h3⟩
/-! The types that exist. -/
theorem may_prim {k : Nat} {d : Int} (hk : prim k = true) (h : 0 ≤ d ∧ d ≤ 64) : mayT ⟨k, d, 0, []⟩ = true := by
  unfold mayT; dsimp only; rw [if_neg (by omega), if_pos hk]; simp
theorem may_chan {i : Nat} {d : Int} (hk : prim i = true) (h : 0 ≤ d ∧ d ≤ 64) : mayT ⟨4, d, i, []⟩ = true := by
  unfold mayT; dsimp only; rw [if_neg (by omega), if_neg (by decide), if_pos rfl, hk]; rfl
theorem may_named {p : Bs} {d : Int} (hp : isName p = true) (h : 0 ≤ d ∧ d ≤ 64) : mayT ⟨4, d, 0, p⟩ = true := by
  unfold mayT; dsimp only; rw [if_neg (by omega), if_neg (by decide), if_pos rfl, hp]; simp
theorem may_timer : mayT tTimer = true := by decide
theorem name_ne {p : Bs} (h : isName p = true) : p ≠ [] := by rintro rfl; exact absurd h (by decide)
/-- The five forms of a type that exists. -/
theorem may_ways {t : Ty} (h : mayT t = true) : (0 ≤ t.d ∧ t.d ≤ 64) ∧ ((prim t.k = true ∧ t = ⟨t.k, t.d, 0, []⟩) ∨ (prim t.i = true ∧ t = ⟨4, t.d, t.i, []⟩) ∨ (isName t.p = true ∧ t = ⟨4, t.d, 0, t.p⟩) ∨ t = tTimer) := by
  obtain ⟨k, d, i, p⟩ := t
  unfold mayT at h
  dsimp only at h ⊢
  by_cases h1 : d < 0 ∨ 64 < d
  · rw [if_pos h1] at h; cases h
  · rw [if_neg h1] at h
    refine ⟨by omega, ?_⟩
    by_cases h2 : prim k = true
    · rw [if_pos h2] at h
      simp at h
      obtain ⟨rfl, rfl⟩ := h
      exact .inl ⟨h2, rfl⟩
    · rw [if_neg h2] at h
      by_cases h3 : k = 4
      · subst h3
        rw [if_pos rfl] at h
        simp only [Bool.or_eq_true, Bool.and_eq_true, decide_eq_true_eq] at h
        rcases h with ⟨h4, rfl⟩ | ⟨rfl, h4⟩
        · exact .inr (.inl ⟨h4, rfl⟩)
        · exact .inr (.inr (.inl ⟨h4, rfl⟩))
      · rw [if_neg h3] at h
        exact .inr (.inr (.inr (of_decide_eq_true h)))
theorem tok_prim {k : Nat} {d : Int} (hk : prim k = true) : tokT ⟨k, d, 0, []⟩ = dimT d ++ [kw (wd k)] := by
  unfold tokT coreT
  dsimp only
  rcases (prim_iff k).1 hk with rfl | rfl | rfl <;> rfl
theorem tok_chan {i : Nat} {d : Int} : tokT ⟨4, d, i, []⟩ = dimT d ++ [kw wChan, kw wOf, kw (wd i)] := rfl
theorem tok_named {p : Bs} {d : Int} (hp : isName p = true) : tokT ⟨4, d, 0, p⟩ = dimT d ++ [kw wChan, kw wOf, nm p] := by
  unfold tokT coreT
  dsimp only
  rw [if_neg (name_ne hp)]
  rfl
theorem tok_timer : tokT tTimer = [kw wTimer] := rfl
theorem pre_cons (y : Tk) (ys l : List Tk) : pre (y :: ys) l = true ↔ ∃ x xs, l = x :: xs ∧ isT x y = true ∧ pre ys xs = true := by
  cases l with
  | nil => simp [pre]
  | cons x xs =>
    show (isT x y && pre ys xs) = true ↔ _
    rw [Bool.and_eq_true]
    constructor
    · intro h; exact ⟨x, xs, rfl, h⟩
    · rintro ⟨x', xs', e, h⟩
      injection e with e1 e2
      subst e1 e2
      exact h
theorem pre_nil (l : List Tk) : pre [] l = true := by cases l <;> rfl
theorem core_cons (d : Int) (x : Tk) (r : List Tk) : core d (x :: r) = match primOf x with
    | some k => some ⟨k, d, 0, []⟩
    | none => if isT x (kw wTimer) = true then (if d = 0 then some tTimer else none)
      else if isT x (kw wChan) = true then (match r with
        | y :: z :: _ => if isT y (kw wOf) = true then itemOf d z else none
        | _ => none) else none := rfl
/-- What core finds exists, and its tokens are those that were read. -/
theorem core_some {d : Int} {l : List Tk} {t : Ty} (hd : 0 ≤ d ∧ d ≤ 64) (h : core d l = some t) : mayT t = true ∧ t.d = d ∧ pre (coreT t) l = true := by
  cases l with
  | nil => cases h
  | cons x r =>
    rw [core_cons] at h
    cases hp : primOf x with
    | some k =>
      rw [hp] at h
      injection h with h
      subst h
      obtain ⟨h1, h2⟩ := primOf_some hp
      refine ⟨may_prim h1 hd, rfl, ?_⟩
      have : coreT ⟨k, d, 0, []⟩ = [kw (wd k)] := by rcases (prim_iff k).1 h1 with rfl | rfl | rfl <;> rfl
      rw [this, pre_cons]
      exact ⟨x, r, rfl, h2, pre_nil _⟩
    | none =>
      rw [hp] at h
      dsimp only at h
      split at h
      · rename_i h1
        split at h
        · rename_i h2
          injection h with h
          subst h
          exact ⟨may_timer, h2.symm, (pre_cons _ _ _).2 ⟨x, r, rfl, h1, pre_nil _⟩⟩
        · cases h
      · split at h
        · rename_i h1
          split at h
          · rename_i y z q
            split at h
            · rename_i h2
              unfold itemOf at h
              cases hz : primOf z with
              | some i =>
                rw [hz] at h
                injection h with h
                subst h
                obtain ⟨h3, h4⟩ := primOf_some hz
                refine ⟨may_chan h3 hd, rfl, ?_⟩
                show pre [kw wChan, kw wOf, kw (wd i)] (x :: y :: z :: q) = true
                simp [pre, h1, h2, h4, pre_nil]
              | none =>
                rw [hz] at h
                dsimp only at h
                split at h
                · rename_i h3
                  injection h with h
                  subst h
                  obtain ⟨h4, h5⟩ := (isNm_iff z).1 h3
                  refine ⟨may_named h4 hd, rfl, ?_⟩
                  have : coreT ⟨4, d, 0, z.tx⟩ = [kw wChan, kw wOf, nm z.tx] := by unfold coreT; dsimp only; rw [if_neg (name_ne h4)]; rfl
                  rw [this]
                  simp [pre, h1, h2, h5, pre_nil]
                · cases h
            · cases h
          · cases h
        · cases h
/-- A type's tokens are found by core. -/
theorem core_of {t : Ty} {l : List Tk} (ht : mayT t = true) (h : pre (coreT t) l = true) : core t.d l = some t := by
  obtain ⟨hd, hw⟩ := may_ways ht
  rcases hw with ⟨h1, e⟩ | ⟨h1, e⟩ | ⟨h1, e⟩ | rfl
  · have hc : coreT t = [kw (wd t.k)] := by rw [e]; unfold coreT; dsimp only; rcases (prim_iff t.k).1 h1 with h | h | h <;> rw [h] <;> rfl
    rw [hc, pre_cons] at h
    obtain ⟨x, xs, rfl, h2, _⟩ := h
    rw [core_cons, primOf_of h1 h2]
    exact congrArg some e.symm
  · have hc : coreT t = [kw wChan, kw wOf, kw (wd t.i)] := by rw [e]; rfl
    rw [hc] at h
    obtain ⟨x, xs, rfl, h2, h⟩ := (pre_cons _ _ _).1 h
    obtain ⟨y, ys, rfl, h3, h⟩ := (pre_cons _ _ _).1 h
    obtain ⟨z, zs, rfl, h4, h⟩ := (pre_cons _ _ _).1 h
    rw [core_cons, primOf_word h2 (by decide)]
    dsimp only
    rw [if_neg (fun h5 => absurd (((isT_iff _ _).1 h2).2.1.symm.trans ((isT_iff _ _).1 h5).2.1) (by decide)), if_pos h2, if_pos h3]
    unfold itemOf
    rw [primOf_of h1 h4]
    exact congrArg some e.symm
  · have hc : coreT t = [kw wChan, kw wOf, nm t.p] := by rw [e]; unfold coreT; dsimp only; rw [if_neg (name_ne h1)]; rfl
    rw [hc] at h
    obtain ⟨x, xs, rfl, h2, h⟩ := (pre_cons _ _ _).1 h
    obtain ⟨y, ys, rfl, h3, h⟩ := (pre_cons _ _ _).1 h
    obtain ⟨z, zs, rfl, h4, h⟩ := (pre_cons _ _ _).1 h
    have hz := (isT_iff _ _).1 h4
    have hzt : z.tx = t.p := hz.2.1
    rw [core_cons, primOf_word h2 (by decide)]
    dsimp only
    rw [if_neg (fun h5 => absurd (((isT_iff _ _).1 h2).2.1.symm.trans ((isT_iff _ _).1 h5).2.1) (by decide)), if_pos h2, if_pos h3]
    unfold itemOf
    rw [primOf_kind (by rw [hz.1]; show (1 : Nat) ≠ 2; decide)]
    dsimp only
    rw [if_pos ((isNm_iff z).2 ⟨by rw [hzt]; exact h1, by rw [hzt]; exact h4⟩), hzt]
    exact congrArg some e.symm
  · obtain ⟨x, xs, rfl, h2, _⟩ := (pre_cons _ _ _).1 h
    rw [core_cons, primOf_word h2 (by decide)]
    dsimp only
    rw [if_pos h2]
    rfl
theorem core_sym {d : Int} {a : Tk} {r : List Tk} (h : a.k ≠ 2) : core d (a :: r) = none := by
  have hn : ∀ u, ¬ isT a (kw u) = true := fun u h2 => h ((isT_iff _ _).1 h2).1
  rw [core_cons, primOf_kind h]
  dsimp only
  rw [if_neg (hn _), if_neg (hn _)]
theorem pre_append : ∀ (a b l : List Tk), pre (a ++ b) l = true ↔ ∃ x y, l = x ++ y ∧ x.length = a.length ∧ pre a x = true ∧ pre b y = true
  | [], b, l => by
    constructor
    · intro h; exact ⟨[], l, rfl, rfl, rfl, h⟩
    · rintro ⟨x, y, rfl, h1, _, h2⟩
      obtain rfl : x = [] := List.eq_nil_of_length_eq_zero h1
      exact h2
  | c :: a, b, l => by
    rw [List.cons_append, pre_cons]
    constructor
    · rintro ⟨x, xs, rfl, h1, h2⟩
      obtain ⟨u, v, rfl, h3, h4, h5⟩ := (pre_append a b xs).1 h2
      exact ⟨x :: u, v, rfl, by simp [h3], by rw [pre_cons]; exact ⟨x, u, rfl, h1, h4⟩, h5⟩
    · rintro ⟨x, y, rfl, h1, h2, h3⟩
      obtain ⟨u, us, rfl, h4, h5⟩ := (pre_cons _ _ _).1 h2
      exact ⟨u, us ++ y, rfl, h4, (pre_append a b (us ++ y)).2 ⟨us, y, rfl, by simpa using h1, h5, h3⟩⟩
theorem isNb_iff (x : Tk) : isNb x = true ↔ isT x (nb x.n) = true ∧ 1 ≤ x.n ∧ x.n ≤ 64 := by
  unfold isNb isT nb
  simp
  constructor
  · rintro ⟨⟨⟨h1, h2⟩, h3⟩, h4⟩; exact ⟨⟨h1, h2⟩, h3, h4⟩
  · rintro ⟨⟨h1, h2⟩, h3, h4⟩; exact ⟨⟨⟨h1, h2⟩, h3⟩, h4⟩
theorem front_core {l : List Tk} (h : ∀ x xs, l = x :: xs → isT x (sy [91]) = false) : front l = core 0 l := by
  unfold front
  split
  · rename_i a n b r
    rw [if_neg]
    rintro ⟨h1, _⟩
    rw [h a _ rfl] at h1
    cases h1
  · rfl
theorem dim_pos {d : Int} (h : 0 < d) : dimT d = [sy [91], nb d, sy [93]] := by unfold dimT; rw [if_pos h]
theorem dim_zero {d : Int} (h : ¬ 0 < d) : dimT d = [] := by unfold dimT; rw [if_neg h]
theorem core_head {t : Ty} {l : List Tk} (h : mayT t = true) (hp : pre (coreT t) l = true) : ∀ x xs, l = x :: xs → x.k = 2 := by
  rintro x xs rfl
  obtain ⟨_, hw⟩ := may_ways h
  rcases hw with ⟨h1, e⟩ | ⟨h1, e⟩ | ⟨h1, e⟩ | rfl
  · rw [e] at hp
    have hc : coreT ⟨t.k, t.d, 0, []⟩ = [kw (wd t.k)] := by unfold coreT; dsimp only; rcases (prim_iff t.k).1 h1 with h | h | h <;> rw [h] <;> rfl
    rw [hc] at hp
    obtain ⟨y, ys, e1, h2, _⟩ := (pre_cons _ _ _).1 hp
    injection e1 with e1 _
    subst e1
    exact ((isT_iff _ _).1 h2).1
  · rw [e] at hp
    obtain ⟨y, ys, e1, h2, _⟩ := (pre_cons _ _ _).1 hp
    injection e1 with e1 _
    subst e1
    exact ((isT_iff _ _).1 h2).1
  · rw [e] at hp
    obtain ⟨y, ys, e1, h2, _⟩ := (pre_cons (kw wChan) _ _).1 hp
    injection e1 with e1 _
    subst e1
    exact ((isT_iff _ _).1 h2).1
  · obtain ⟨y, ys, e1, h2, _⟩ := (pre_cons _ _ _).1 hp
    injection e1 with e1 _
    subst e1
    exact ((isT_iff _ _).1 h2).1
/-- front finds exactly the types with whose tokens the list begins. -/
theorem front_some {l : List Tk} {t : Ty} (h : front l = some t) : mayT t = true ∧ pre (tokT t) l = true := by
  have direct : ∀ l, core 0 l = some t → mayT t = true ∧ pre (tokT t) l = true := fun l h => by
    obtain ⟨h1, h2, h3⟩ := core_some (by omega) h
    refine ⟨h1, ?_⟩
    unfold tokT
    rw [h2, dim_zero (by omega)]
    exact h3
  unfold front at h
  split at h
  · rename_i a n b r
    split at h
    · rename_i hc
      obtain ⟨g1, g2, g3⟩ := hc
      obtain ⟨g4, g5, g6⟩ := (isNb_iff n).1 g2
      obtain ⟨h1, h2, h3⟩ := core_some (by omega) h
      refine ⟨h1, ?_⟩
      unfold tokT
      rw [h2, dim_pos (by omega)]
      simp [pre, g1, g3, g4, h3]
    · exact direct _ h
  · exact direct _ h
theorem front_of {l : List Tk} {t : Ty} (h : mayT t = true) (hp : pre (tokT t) l = true) : front l = some t := by
  obtain ⟨hd, _⟩ := may_ways h
  unfold tokT at hp
  by_cases h0 : 0 < t.d
  · rw [dim_pos h0] at hp
    obtain ⟨a, r, rfl, h1, hp⟩ := (pre_cons _ _ _).1 hp
    obtain ⟨n, r, rfl, h2, hp⟩ := (pre_cons _ _ _).1 hp
    obtain ⟨b, r, rfl, h3, hp⟩ := (pre_cons _ _ _).1 hp
    have hn : n.n = t.d := ((isT_iff _ _).1 h2).2.2
    rw [front_cons3, if_pos ⟨h1, (isNb_iff n).2 ⟨by rw [hn]; exact h2, by omega, by omega⟩, h3⟩, hn]
    exact core_of h hp
  · rw [dim_zero h0] at hp
    have hd0 : t.d = 0 := by omega
    have hk := core_head h hp
    rw [front_core, ← hd0]
    · exact core_of h hp
    · rintro x xs rfl
      have := hk x xs rfl
      cases hq : isT x (sy [91]) with
      | false => rfl
      | true =>
        have h5 : x.k = 5 := ((isT_iff _ _).1 hq).1
        omega
theorem front_one {l : List Tk} {t u : Ty} (h1 : mayT t = true) (h2 : pre (tokT t) l = true) (h3 : mayT u = true) (h4 : pre (tokT u) l = true) : t = u :=
  Option.some.inj ((front_of h1 h2).symm.trans (front_of h3 h4))
theorem pre_self : ∀ (a b : List Tk), pre a (a ++ b) = true
  | [], b => pre_nil _
  | x :: a, b => by rw [List.cons_append, pre_cons]; exact ⟨x, _, rfl, (isT_iff _ _).2 ⟨rfl, rfl, rfl⟩, pre_self a b⟩
theorem pre_kern : ∀ (a l m : List Tk), kern l = kern m → pre a l = pre a m
  | [], l, m, _ => by rw [pre_nil, pre_nil]
  | y :: a, [], [], _ => rfl
  | y :: a, [], m :: ms, h => by simp [kern] at h
  | y :: a, x :: xs, [], h => by simp [kern] at h
  | y :: a, x :: xs, z :: zs, h => by
    unfold kern at h
    rw [List.map_cons, List.map_cons] at h
    injection h with h1 h2
    injection h1 with e1 e2
    injection e2 with e2 e3
    show (isT x y && pre a xs) = (isT z y && pre a zs)
    rw [pre_kern a xs zs h2]
    unfold isT
    rw [e1, e2, e3]
/-- The tokens of a type, with anything behind them, are read as that type. -/
theorem front_back {t : Ty} (h : mayT t = true) (b : List Tk) : front (tokT t ++ b) = some t := front_of h (pre_self _ _)
/-! ### The tokens of a type exist; their text is short -/
theorem wd_key {k : Nat} (h : prim k = true) : isKey (wd k) = true ∧ (wd k).length ≤ 4 := by
  rcases (prim_iff k).1 h with rfl | rfl | rfl <;> decide
theorem tokT_len {t : Ty} (h : mayT t = true) : 1 ≤ (tokT t).length ∧ (tokT t).length ≤ 6 := by
  obtain ⟨_, hw⟩ := may_ways h
  have hd : (dimT t.d).length ≤ 3 := by unfold dimT; split <;> simp
  unfold tokT
  rw [List.length_append]
  have : 1 ≤ (coreT t).length ∧ (coreT t).length ≤ 3 := by unfold coreT; split <;> (try split) <;> simp
  omega
theorem dim_may {d : Int} (h : 0 ≤ d ∧ d ≤ 64) : ∀ x ∈ dimT d, may x = true ∧ OKn x := by
  intro x hx
  unfold dimT at hx
  split at hx
  · simp only [List.mem_cons, List.not_mem_nil, or_false] at hx
    rcases hx with rfl | rfl | rfl
    · exact ⟨by decide, by unfold OKn sy; decide⟩
    · refine ⟨by unfold nb; rfl, ?_⟩
      unfold OKn nb; dsimp only; omega
    · exact ⟨by decide, by unfold OKn sy; decide⟩
  · cases hx
theorem tok_may {t : Ty} (h : mayT t = true) : ∀ x ∈ tokT t, may x = true ∧ OKn x := by
  obtain ⟨hd, hw⟩ := may_ways h
  have hk : ∀ s, isKey s = true → may (kw s) = true ∧ OKn (kw s) := fun s hs => ⟨by unfold may kw; simp [hs], by unfold OKn kw; dsimp only; omega⟩
  have hn : ∀ s, isName s = true → may (nm s) = true ∧ OKn (nm s) := fun s hs => ⟨by unfold may nm; simp [hs], by unfold OKn nm; dsimp only; omega⟩
  intro x hx
  rcases hw with ⟨h1, e⟩ | ⟨h1, e⟩ | ⟨h1, e⟩ | rfl
  · rw [e, tok_prim h1] at hx
    rcases List.mem_append.1 hx with hx | hx
    · exact dim_may hd x hx
    · rw [List.mem_singleton.1 hx]; exact hk _ (wd_key h1).1
  · rw [e, tok_chan] at hx
    rcases List.mem_append.1 hx with hx | hx
    · exact dim_may hd x hx
    · simp only [List.mem_cons, List.not_mem_nil, or_false] at hx
      rcases hx with rfl | rfl | rfl
      · exact hk _ (by decide)
      · exact hk _ (by decide)
      · exact hk _ (wd_key h1).1
  · rw [e, tok_named h1] at hx
    rcases List.mem_append.1 hx with hx | hx
    · exact dim_may hd x hx
    · simp only [List.mem_cons, List.not_mem_nil, or_false] at hx
      rcases hx with rfl | rfl | rfl
      · exact hk _ (by decide)
      · exact hk _ (by decide)
      · exact hn _ h1
  · rw [tok_timer, List.mem_singleton] at hx
    rw [hx]; exact hk _ (by decide)
end Go.Proofs.YtbkbhlbfkfnljaaGreatDoor.L9
