/- The only type with which tokens can begin, as the program guesses it. Plain Lean. -/
import Derived.Test.YtbkbhlbfkfnljaaGreatDoorFro
set_option linter.unusedVariables false
set_option linter.unusedSimpArgs false
set_option linter.unusedVariables false
set_option linter.unusedSimpArgs false
namespace Go.Proofs.YtbkbhlbfkfnljaaGreatDoor
open Go L8 L9

/-- The kind that has a word; 0 if none has. -/
def kOf (s : Bs) : Nat := if s = wInt then 1 else if s = wByte then 2 else if s = wBool then 3 else if s = wChan then 4 else if s = wTimer then 5 else 0
theorem kOf_le (s : Bs) : kOf s ≤ 5 := by
  unfold kOf
  split
  · omega
  · split
    · omega
    · split
      · omega
      · split
        · omega
        · split <;> omega
theorem kOf_wd {k : Nat} (h : prim k = true) : kOf (wd k) = k := by
  rcases (prim_iff k).1 h with rfl | rfl | rfl <;> decide
theorem kOf_name {p : Bs} (h : isName p = true) : prim (kOf p) = false := by
  cases hp : prim (kOf p) with
  | false => rfl
  | true =>
    exfalso
    have key : ∀ s, isName s = false → p ≠ s := fun s hs e => by rw [e, hs] at h; cases h
    have h1 := key wInt (by decide)
    have h2 := key wByte (by decide)
    have h3 := key wBool (by decide)
    unfold kOf at hp
    rw [if_neg h1, if_neg h2, if_neg h3] at hp
    split at hp
    · cases hp
    · split at hp <;> cases hp
/-- Tokens that begin with a dimension. -/
def brk (l : List Tk) : Bool := decide (3 < l.length) && decide ((l.getD 0 r0).tx = [91])
def restG (l : List Tk) : List Tk := if brk l = true then l.drop 3 else l
def dimG (l : List Tk) : Int := if brk l = true then (l.getD 1 r0).n else 0
def kindG (r : List Tk) : Nat := if 0 < r.length then kOf (r.getD 0 r0).tx else 0
def tyG (d : Int) (r : List Tk) : Ty := if kindG r = 4 ∧ 2 < r.length then (if prim (kOf (r.getD 2 r0).tx) = true then ⟨4, d, kOf (r.getD 2 r0).tx, []⟩ else ⟨4, d, 0, (r.getD 2 r0).tx⟩) else ⟨kindG r, d, 0, []⟩
def guessT (l : List Tk) : Ty := tyG (dimG l) (restG l)
theorem core_guess {t : Ty} {r : List Tk} (h : mayT t = true) (hp : pre (coreT t) r = true) : tyG t.d r = t := by
  obtain ⟨_, hw⟩ := may_ways h
  rcases hw with ⟨h1, e⟩ | ⟨h1, e⟩ | ⟨h1, e⟩ | rfl
  · rw [e] at hp
    have hc : coreT ⟨t.k, t.d, 0, []⟩ = [kw (wd t.k)] := by unfold coreT; dsimp only; rcases (prim_iff t.k).1 h1 with h | h | h <;> rw [h] <;> rfl
    rw [hc] at hp
    obtain ⟨y, ys, rfl, h2, _⟩ := (pre_cons _ _ _).1 hp
    have hy : y.tx = wd t.k := ((isT_iff _ _).1 h2).2.1
    have hk : kindG (y :: ys) = t.k := by
      unfold kindG
      rw [if_pos (by simp)]
      show kOf y.tx = _
      rw [hy, kOf_wd h1]
    unfold tyG
    rw [hk, if_neg]
    · exact e.symm
    · rintro ⟨h4, _⟩
      rw [h4] at h1
      cases h1
  · have hc : coreT t = [kw wChan, kw wOf, kw (wd t.i)] := by rw [e]; rfl
    rw [hc] at hp
    obtain ⟨x, xs, rfl, g1, hp⟩ := (pre_cons _ _ _).1 hp
    obtain ⟨y, ys, rfl, _, hp⟩ := (pre_cons _ _ _).1 hp
    obtain ⟨z, zs, rfl, g3, hp⟩ := (pre_cons _ _ _).1 hp
    have hx : x.tx = wChan := ((isT_iff _ _).1 g1).2.1
    have hz : z.tx = wd t.i := ((isT_iff _ _).1 g3).2.1
    have hk : kindG (x :: y :: z :: zs) = 4 := by
      unfold kindG
      rw [if_pos (by simp)]
      show kOf x.tx = _
      rw [hx]; decide
    have hz2 : kOf ((x :: y :: z :: zs).getD 2 r0).tx = t.i := by
      show kOf z.tx = _
      rw [hz, kOf_wd h1]
    unfold tyG
    rw [hk, if_pos ⟨rfl, by simp⟩, hz2, if_pos h1]
    exact e.symm
  · have hc : coreT t = [kw wChan, kw wOf, nm t.p] := by rw [e]; unfold coreT; dsimp only; rw [if_neg (name_ne h1)]; rfl
    rw [hc] at hp
    obtain ⟨x, xs, rfl, g1, hp⟩ := (pre_cons _ _ _).1 hp
    obtain ⟨y, ys, rfl, _, hp⟩ := (pre_cons _ _ _).1 hp
    obtain ⟨z, zs, rfl, g3, hp⟩ := (pre_cons _ _ _).1 hp
    have hx : x.tx = wChan := ((isT_iff _ _).1 g1).2.1
    have hz : z.tx = t.p := ((isT_iff _ _).1 g3).2.1
    have hk : kindG (x :: y :: z :: zs) = 4 := by
      unfold kindG
      rw [if_pos (by simp)]
      show kOf x.tx = _
      rw [hx]; decide
    have hz2 : ((x :: y :: z :: zs).getD 2 r0).tx = t.p := hz
    unfold tyG
    rw [hk, if_pos ⟨rfl, by simp⟩, hz2, kOf_name h1, if_neg (by decide)]
    exact e.symm
  · obtain ⟨x, xs, rfl, g1, hp⟩ := (pre_cons _ _ _).1 hp
    have hx : x.tx = wTimer := ((isT_iff _ _).1 g1).2.1
    have hk : kindG (x :: xs) = 5 := by
      unfold kindG
      rw [if_pos (by simp)]
      show kOf x.tx = _
      rw [hx]; decide
    unfold tyG
    rw [hk, if_neg (by rintro ⟨h4, _⟩; cases h4)]
    rfl
/-- A type with which the list begins is the one that is guessed. -/
theorem guess_of {l : List Tk} {t : Ty} (h : mayT t = true) (hp : pre (tokT t) l = true) : guessT l = t := by
  obtain ⟨hd, _⟩ := may_ways h
  unfold tokT at hp
  have hne : ∀ r, pre (coreT t) r = true → r ≠ [] := by
    rintro r hr rfl
    have : coreT t ≠ [] := by unfold coreT; split <;> (try split) <;> simp
    cases hc : coreT t with
    | nil => exact this hc
    | cons y ys => rw [hc] at hr; cases hr
  by_cases h0 : 0 < t.d
  · rw [dim_pos h0] at hp
    obtain ⟨a, r, rfl, g1, hp⟩ := (pre_cons _ _ _).1 hp
    obtain ⟨n, r, rfl, g2, hp⟩ := (pre_cons _ _ _).1 hp
    obtain ⟨b, r, rfl, g3, hp⟩ := (pre_cons _ _ _).1 hp
    have hn : n.n = t.d := ((isT_iff _ _).1 g2).2.2
    have ha : a.tx = [91] := ((isT_iff _ _).1 g1).2.1
    have hb : brk (a :: n :: b :: r) = true := by
      have := List.length_pos_iff.2 (hne r hp)
      unfold brk
      rw [decide_eq_true (show 3 < (a :: n :: b :: r).length by simp only [List.length_cons]; omega), decide_eq_true (show ((a :: n :: b :: r).getD 0 r0).tx = [91] from ha)]
      rfl
    unfold guessT dimG restG
    rw [if_pos hb, if_pos hb]
    show tyG n.n r = t
    rw [hn]
    exact core_guess h hp
  · rw [dim_zero h0, List.nil_append] at hp
    obtain ⟨x, xs, rfl⟩ := List.exists_cons_of_ne_nil (hne l hp)
    obtain ⟨g1, g2⟩ := core_tx h hp
    have hb : brk (x :: xs) = false := by
      unfold brk
      rw [decide_eq_false (show ¬ ((x :: xs).getD 0 r0).tx = [91] from g2), Bool.and_false]
    have hd0 : t.d = 0 := by omega
    unfold guessT dimG restG
    rw [hb, if_neg (by decide), if_neg (by decide), ← hd0]
    exact core_guess h hp
/-- The guessed type, if it exists, has no more tokens than the list. -/
theorem guess_len {l : List Tk} (h : mayT (guessT l) = true) : (tokT (guessT l)).length ≤ l.length := by
  have key : ∀ d r, mayT (tyG d r) = true → (coreT (tyG d r)).length ≤ r.length ∧ (tyG d r).d = d := by
    intro d r h
    by_cases h4 : kindG r = 4 ∧ 2 < r.length
    · have hl : ∀ t : Ty, (coreT t).length ≤ 3 := fun t => by unfold coreT; split <;> (try split) <;> simp
      refine ⟨Nat.le_trans (hl _) (by omega), ?_⟩
      unfold tyG
      rw [if_pos h4]
      split <;> rfl
    · unfold tyG at h ⊢
      rw [if_neg h4] at h ⊢
      have h0 : 0 < r.length := by
        rcases Nat.eq_zero_or_pos r.length with h0 | h0
        · exfalso
          have hk : kindG r = 0 := by unfold kindG; rw [if_neg (by omega)]
          rw [hk] at h
          obtain ⟨_, hw⟩ := may_ways h
          rcases hw with ⟨h1, e⟩ | ⟨h1, e⟩ | ⟨h1, e⟩ | e
          · cases h1
          · cases h1
          · cases h1
          · have := congrArg Ty.k e; cases this
        · exact h0
      refine ⟨?_, rfl⟩
      unfold coreT
      dsimp only
      split
      · simp; omega
      · split
        · rename_i hk
          exfalso
          rw [hk] at h
          cases hm : decide (d < 0 ∨ 64 < d) with
          | true => unfold mayT at h; dsimp only at h; rw [if_pos (of_decide_eq_true hm)] at h; cases h
          | false => unfold mayT at h; dsimp only at h; rw [if_neg (of_decide_eq_false hm), if_neg (by decide), if_pos rfl] at h; simp [prim, show isName [] = false from by decide] at h
        · simp; omega
  obtain ⟨h1, h2⟩ := key (dimG l) (restG l) h
  have hg : guessT l = tyG (dimG l) (restG l) := rfl
  rw [hg]
  unfold tokT
  rw [List.length_append, h2]
  by_cases hb : brk l = true
  · have hl : 3 < l.length := by
      unfold brk at hb
      rw [Bool.and_eq_true, decide_eq_true_eq] at hb
      exact hb.1
    have hr : (restG l).length = l.length - 3 := by unfold restG; rw [if_pos hb, List.length_drop]
    have : (dimT (dimG l)).length ≤ 3 := by unfold dimT; split <;> simp
    omega
  · have hr : restG l = l := by unfold restG; rw [if_neg hb]
    have hd : dimG l = 0 := by unfold dimG; rw [if_neg hb]
    rw [hd, dim_zero (by omega)]
    rw [hr] at h1 ⊢
    rw [hd] at h1
    simpa using h1
theorem frontG_yes {l : List Tk} (h : mayT (guessT l) = true) (hp : pre (tokT (guessT l)) l = true) : frontR l = (guessT l, (tokT (guessT l)).length, 0) := by
  unfold frontR
  rw [front_of h hp]
theorem frontG_no {l : List Tk} (h : mayT (guessT l) = true → pre (tokT (guessT l)) l = false) : frontR l = (t0, 0, 90) := by
  unfold frontR
  cases hf : front l with
  | none => rfl
  | some t =>
    exfalso
    obtain ⟨h1, h2⟩ := front_some hf
    rw [guess_of h1 h2] at h
    rw [h h1] at h2
    cases h2
/-- Whether tokens begin with others, place by place. -/
theorem pre_false {ys l : List Tk} (j : Nat) (hj : j < ys.length) (h : isT (l.getD j r0) (ys.getD j r0) = false) : pre ys l = false := by
  cases hp : pre ys l with
  | false => rfl
  | true =>
    exfalso
    have : ∀ (ys l : List Tk) (j : Nat), j < ys.length → pre ys l = true → isT (l.getD j r0) (ys.getD j r0) = true := by
      intro ys
      induction ys with
      | nil => intro l j hj; simp at hj
      | cons y ys ih =>
        intro l j hj hp
        obtain ⟨x, xs, rfl, h1, h2⟩ := (pre_cons _ _ _).1 hp
        cases j with
        | zero => exact h1
        | succ j =>
          simp only [List.length_cons] at hj
          have := ih xs j (by omega) h2
          simpa using this
    rw [this ys l j hj hp] at h
    cases h
theorem pre_true : ∀ {ys l : List Tk}, ys.length ≤ l.length → (∀ j, j < ys.length → isT (l.getD j r0) (ys.getD j r0) = true) → pre ys l = true
  | [], l, _, _ => pre_nil l
  | y :: ys, [], h, _ => by simp at h
  | y :: ys, x :: xs, h, hj => by
    refine (pre_cons _ _ _).2 ⟨x, xs, rfl, hj 0 (by simp), pre_true (by simpa using h) fun j hj2 => ?_⟩
    have := hj (j + 1) (by simpa using hj2)
    simpa using this
end Go.Proofs.YtbkbhlbfkfnljaaGreatDoor
