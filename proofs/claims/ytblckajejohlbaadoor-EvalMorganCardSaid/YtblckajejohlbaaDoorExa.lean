/- Expression trees: sizes, names, equality, the fields that a kind has, which trees are valid. Plain Lean. -/
import Derived.Test.YtblckajejohlbaaDoorLxd
set_option linter.unusedVariables false
set_option linter.unusedSimpArgs false
set_option linter.unusedVariables false
set_option linter.unusedSimpArgs false
namespace Go.Proofs.YtblckajejohlbaaDoor.L10
open Go L8

/-- A tree: kind (1 number, 2 byte, 3 truth value, 4 name, 5 index, 6 monadic, 7 dyadic, 8 conversion, 9 size), operator, type, number, name, parts. -/
inductive Ex where
  | mk (k o t : Nat) (n : Int) (s : Bs) (l : List Ex)
def Ex.k : Ex → Nat | .mk k _ _ _ _ _ => k
def Ex.o : Ex → Nat | .mk _ o _ _ _ _ => o
def Ex.t : Ex → Nat | .mk _ _ t _ _ _ => t
def Ex.n : Ex → Int | .mk _ _ _ n _ _ => n
def Ex.s : Ex → Bs | .mk _ _ _ _ s _ => s
def Ex.l : Ex → List Ex | .mk _ _ _ _ _ l => l
def e0 : Ex := .mk 0 0 0 0 [] []
theorem Ex.eta (e : Ex) : e = .mk e.k e.o e.t e.n e.s e.l := by cases e; rfl
theorem Ex.ind {P : Ex → Prop} (h : ∀ e : Ex, (∀ x ∈ e.l, P x) → P e) : ∀ e, P e
  | .mk k o t n s l => h _ fun x hx => Ex.ind h x
termination_by e => SizeOf.sizeOf e
decreasing_by
  have h1 : x ∈ l := hx
  have := List.sizeOf_lt_of_mem h1
  simp
  omega
/-! ### How many, how deep, which names -/
mutual
def szE : Ex → Nat
  | .mk _ _ _ _ _ l => 1 + szL l
def szL : List Ex → Nat
  | [] => 0
  | x :: r => szE x + szL r
end
mutual
def dpE : Ex → Nat
  | .mk _ _ _ _ _ l => 1 + dpL l
def dpL : List Ex → Nat
  | [] => 0
  | x :: r => max (dpE x) (dpL r)
end
def ownNm (k : Nat) (s : Bs) : List Bs := if k = 4 ∨ k = 5 ∨ k = 9 then [s] else []
mutual
def nmE : Ex → List Bs
  | .mk k _ _ _ s l => ownNm k s ++ nmL l
def nmL : List Ex → List Bs
  | [] => []
  | x :: r => nmE x ++ nmL r
end
theorem szE_eq (e : Ex) : szE e = 1 + szL e.l := by cases e; rw [szE]; rfl
theorem dpE_eq (e : Ex) : dpE e = 1 + dpL e.l := by cases e; rw [dpE]; rfl
theorem nmE_eq (e : Ex) : nmE e = ownNm e.k e.s ++ nmL e.l := by cases e; rw [nmE]; rfl
theorem szL_app (a b : List Ex) : szL (a ++ b) = szL a + szL b := by
  induction a with
  | nil => simp [szL]
  | cons x a ih => rw [List.cons_append, szL, szL, ih]; omega
theorem nmL_app (a b : List Ex) : nmL (a ++ b) = nmL a ++ nmL b := by
  induction a with
  | nil => simp [nmL]
  | cons x a ih => rw [List.cons_append, nmL, nmL, ih, List.append_assoc]
theorem take_one {l : List Ex} {i : Nat} (h : i < l.length) : l.take (i + 1) = l.take i ++ [l.getD i e0] := by
  rw [List.take_succ_eq_append_getElem h]
  simp [h]
theorem szL_take {l : List Ex} {i : Nat} (h : i < l.length) : szL (l.take (i + 1)) = szL (l.take i) + szE (l.getD i e0) := by
  rw [take_one h, szL_app]; simp [szL]
theorem nmL_take {l : List Ex} {i : Nat} (h : i < l.length) : nmL (l.take (i + 1)) = nmL (l.take i) ++ nmE (l.getD i e0) := by
  rw [take_one h, nmL_app]; simp [nmL]
theorem szE_pos (e : Ex) : 1 ≤ szE e := by rw [szE_eq]; omega
/-! ### Equality -/
mutual
def sameE : Ex → Ex → Bool
  | .mk k o t n s l, .mk k' o' t' n' s' l' => decide (k = k') && (decide (o = o') && (decide (t = t') && (decide (n = n') && (decide (s = s') && sameL l l'))))
def sameL : List Ex → List Ex → Bool
  | [], [] => true
  | x :: r, y :: q => sameE x y && sameL r q
  | _, _ => false
end
theorem same_self : ∀ e : Ex, sameE e e = true := by
  refine Ex.ind fun e ih => ?_
  obtain ⟨k, o, t, n, s, l⟩ := e
  have key : ∀ l : List Ex, (∀ x ∈ l, sameE x x = true) → sameL l l = true := by
    intro l
    induction l with
    | nil => intro _; rw [sameL]
    | cons x r ihr =>
      intro h
      rw [sameL, h x (List.mem_cons_self ..), ihr fun y hy => h y (List.mem_cons_of_mem _ hy)]
      rfl
  rw [sameE, key l ih]
  simp
theorem same_eq : ∀ a b : Ex, sameE a b = true → a = b := by
  refine Ex.ind fun a ih => ?_
  intro b h
  obtain ⟨k, o, t, n, s, l⟩ := a
  obtain ⟨k', o', t', n', s', l'⟩ := b
  have key : ∀ l l' : List Ex, (∀ x ∈ l, ∀ y, sameE x y = true → x = y) → sameL l l' = true → l = l' := by
    intro l
    induction l with
    | nil => intro l' _ h; cases l' with | nil => rfl | cons y q => rw [sameL] at h; cases h; all_goals simp
    | cons x r ihr =>
      intro l' hx h
      cases l' with
      | nil => rw [sameL] at h; cases h; all_goals simp
      | cons y q =>
        rw [sameL, Bool.and_eq_true] at h
        rw [hx x (List.mem_cons_self ..) y h.1, ihr q (fun z hz => hx z (List.mem_cons_of_mem _ hz)) h.2]
  rw [sameE] at h
  simp only [Bool.and_eq_true, decide_eq_true_eq] at h
  obtain ⟨rfl, rfl, rfl, rfl, rfl, h⟩ := h
  rw [key l l' ih h]
theorem same_iff (a b : Ex) : sameE a b = true ↔ a = b := ⟨same_eq a b, fun h => h ▸ same_self a⟩
instance : DecidableEq Ex := fun a b => decidable_of_iff _ (same_iff a b)
theorem same_dec (a b : Ex) : sameE a b = decide (a = b) := by
  cases h : sameE a b with
  | true => exact (decide_eq_true ((same_iff a b).1 h)).symm
  | false => exact (decide_eq_false fun e => by rw [(same_iff a b).2 e] at h; cases h).symm
theorem sameL_len : ∀ {l m : List Ex}, l.length ≠ m.length → sameL l m = false
  | [], [], h => absurd rfl h
  | [], y :: q, _ => by rw [sameL]; all_goals simp
  | x :: r, [], _ => by rw [sameL]; all_goals simp
  | x :: r, y :: q, h => by rw [sameL, sameL_len (l := r) (m := q) (by simpa using h)]; simp
theorem sameL_not : ∀ {l m : List Ex} {i : Nat}, i < l.length → i < m.length → sameE (l.getD i e0) (m.getD i e0) = false → sameL l m = false
  | [], _, i, h, _, _ => by simp at h
  | _ :: _, [], i, _, h, _ => by simp at h
  | x :: r, y :: q, 0, _, _, h => by rw [sameL, show sameE x y = false from h]; rfl
  | x :: r, y :: q, i + 1, h1, h2, h => by rw [sameL, sameL_not (l := r) (m := q) (i := i) (by simpa using h1) (by simpa using h2) (by simpa using h)]; simp
theorem sameL_all : ∀ {l m : List Ex}, l.length = m.length → (∀ i, i < l.length → sameE (l.getD i e0) (m.getD i e0) = true) → sameL l m = true
  | [], [], _, _ => by rw [sameL]
  | [], _ :: _, h, _ => by simp at h
  | _ :: _, [], h, _ => by simp at h
  | x :: r, y :: q, h, g => by
    rw [sameL, show sameE x y = true from g 0 (by simp), sameL_all (l := r) (m := q) (by simpa using h) fun i hi => by have := g (i + 1) (by simpa using hi); simpa using this]
    rfl
/-! ### The fields that a kind has -/
def prim (k : Nat) : Bool := decide (k = 1) || (decide (k = 2) || decide (k = 3))
def parts (k : Nat) : Nat := if k = 5 ∨ k = 6 ∨ k = 8 then 1 else if k = 7 then 2 else 0
/-- The fields that the kind uses hold what they may. -/
def fineE (e : Ex) : Bool :=
  if e.k = 1 then true
  else if e.k = 2 then decide (0 ≤ e.n) && decide (e.n ≤ 255)
  else if e.k = 3 then decide (e.n = 0) || decide (e.n = 1)
  else if e.k = 4 ∨ e.k = 5 ∨ e.k = 9 then isName e.s
  else if e.k = 6 then decide (23 ≤ e.o) && decide (e.o ≤ 26)
  else if e.k = 7 then decide (1 ≤ e.o) && decide (e.o ≤ 22)
  else if e.k = 8 then prim e.t else false
/-- The fields that it does not use are zero. -/
def zeroE (e : Ex) : Bool := (decide (e.k = 6) || decide (e.k = 7) || decide (e.o = 0)) && ((decide (e.k = 8) || decide (e.t = 0)) && ((decide (e.k = 1) || decide (e.k = 2) || decide (e.k = 3) || decide (e.n = 0)) && (decide (e.k = 4) || decide (e.k = 5) || decide (e.k = 9) || decide (e.s = []))))
def ownE (e : Ex) : Bool := fineE e && (decide (e.l.length = parts e.k) && zeroE e)
mutual
def allE : Ex → Bool
  | .mk k o t n s l => ownE (.mk k o t n s l) && allL l
def allL : List Ex → Bool
  | [] => true
  | x :: r => allE x && allL r
end
theorem allE_eq (e : Ex) : allE e = (ownE e && allL e.l) := by cases e; rw [allE]; rfl
theorem allL_iff (l : List Ex) : allL l = true ↔ ∀ x ∈ l, allE x = true := by
  induction l with
  | nil => simp [allL]
  | cons x r ih => rw [allL, Bool.and_eq_true, ih]; simp
/-- A tree is valid. -/
def mayE (e : Ex) : Bool := allE e && (decide (szE e ≤ 256) && decide (dpE e ≤ 32))
/-! ### The room that the reference counts -/
mutual
def roomE : Ex → Nat → Int → Int
  | .mk k o t n s l, i, left => if i = 32 ∨ left = 0 ∨ ownE (.mk k o t n s l) = false then -1 else roomL l (i + 1) (left - 1)
def roomL : List Ex → Nat → Int → Int
  | [], _, left => left
  | x :: r, i, left => if roomE x i left < 0 then -1 else roomL r i (roomE x i left)
end
theorem roomE_eq (e : Ex) (i : Nat) (left : Int) : roomE e i left = if i = 32 ∨ left = 0 ∨ ownE e = false then -1 else roomL e.l (i + 1) (left - 1) := by cases e; rw [roomE]; rfl
theorem dpL_cons (x : Ex) (r : List Ex) : dpL (x :: r) = max (dpE x) (dpL r) := by rw [dpL]
theorem room_is : ∀ (e : Ex) (i : Nat) (left : Int), i ≤ 32 → 0 ≤ left → roomE e i left = if allE e = true ∧ i + dpE e ≤ 32 ∧ (szE e : Int) ≤ left then left - szE e else -1 := by
  refine Ex.ind fun e ih => ?_
  have key : ∀ (l : List Ex), (∀ x ∈ l, ∀ (i : Nat) (left : Int), i ≤ 32 → 0 ≤ left → roomE x i left = if allE x = true ∧ i + dpE x ≤ 32 ∧ (szE x : Int) ≤ left then left - szE x else -1) →
      ∀ (i : Nat) (left : Int), i ≤ 32 → 0 ≤ left → roomL l i left = if allL l = true ∧ i + dpL l ≤ 32 ∧ (szL l : Int) ≤ left then left - szL l else -1 := by
    intro l
    induction l with
    | nil =>
      intro _ i left hi hl
      rw [roomL, if_pos ⟨by rw [allL], by rw [dpL]; omega, by rw [szL]; omega⟩, szL]
      omega
    | cons x r ihr =>
      intro hx i left hi hl
      have h1 := hx x (List.mem_cons_self ..) i left hi hl
      have h2 := ihr (fun y hy => hx y (List.mem_cons_of_mem _ hy))
      rw [roomL, h1, allL, dpL_cons, szL]
      by_cases hc : allE x = true ∧ i + dpE x ≤ 32 ∧ (szE x : Int) ≤ left
      · rw [if_pos hc, if_neg (by omega), h2 i (left - szE x) hi (by omega), hc.1, Bool.true_and]
        by_cases hd : allL r = true ∧ i + dpL r ≤ 32 ∧ (szL r : Int) ≤ left - szE x
        · rw [if_pos hd, if_pos ⟨hd.1, by omega, by omega⟩]
          omega
        · rw [if_neg hd, if_neg]
          rintro ⟨g1, g2, g3⟩
          exact hd ⟨g1, by omega, by omega⟩
      · rw [if_neg hc, if_pos (by omega), if_neg]
        rintro ⟨g1, g2, g3⟩
        rw [Bool.and_eq_true] at g1
        exact hc ⟨g1.1, by omega, by omega⟩
  intro i left hi hl
  rw [roomE_eq, allE_eq, dpE_eq, szE_eq]
  by_cases h1 : i = 32 ∨ left = 0 ∨ ownE e = false
  · rw [if_pos h1, if_neg]
    rintro ⟨g1, g2, g3⟩
    rw [Bool.and_eq_true] at g1
    rcases h1 with h | h | h
    · omega
    · omega
    · rw [g1.1] at h; cases h
  · have ho : ownE e = true := by
      cases h : ownE e with
      | true => rfl
      | false => exact absurd (.inr (.inr h)) h1
    rw [if_neg h1, key e.l ih (i + 1) (left - 1) (by omega) (by omega), ho, Bool.true_and]
    by_cases hd : allL e.l = true ∧ i + 1 + dpL e.l ≤ 32 ∧ (szL e.l : Int) ≤ left - 1
    · rw [if_pos hd, if_pos ⟨hd.1, by omega, by omega⟩]
      omega
    · rw [if_neg hd, if_neg]
      rintro ⟨g1, g2, g3⟩
      exact hd ⟨g1, by omega, by omega⟩
theorem room_may (e : Ex) : mayE e = decide (0 ≤ roomE e 0 256) := by
  rw [room_is e 0 256 (by omega) (by omega)]
  unfold mayE
  by_cases hc : allE e = true ∧ 0 + dpE e ≤ 32 ∧ (szE e : Int) ≤ 256
  · rw [if_pos hc, hc.1, decide_eq_true (show szE e ≤ 256 by omega), decide_eq_true (show dpE e ≤ 32 by omega), decide_eq_true (by omega)]
    rfl
  · rw [if_neg hc, decide_eq_false (show ¬ (0 : Int) ≤ -1 by omega)]
    cases ha : allE e with
    | false => rfl
    | true =>
      by_cases h1 : szE e ≤ 256
      · rw [decide_eq_false (show ¬ dpE e ≤ 32 from fun h => hc ⟨ha, by omega, by omega⟩)]; simp
      · rw [decide_eq_false h1]; rfl
end Go.Proofs.YtblckajejohlbaaDoor.L10
