/- The program's ways: tokens told by their texts alone; trees by lists that are still to be passed. Plain Lean. -/
import Derived.Test.YtimbiobonigdmaaGreatDoorExd
set_option linter.unusedVariables false
set_option linter.unusedSimpArgs false
set_option linter.unusedVariables false
set_option linter.unusedSimpArgs false
namespace Go.Proofs.YtimbiobonigdmaaGreatDoor.L10
open Go L8

/-! ### Tokens by their texts -/
theorem key_nsym : ∀ s ∈ keys, isSym s = false := by decide
theorem sym_nname : ∀ s ∈ syms, letter (s.headD 0) = false := by decide
theorem key_mem {s : Bs} (h : isKey s = true) : s ∈ keys := by simpa [isKey] using h
theorem sym_mem {s : Bs} (h : isSym s = true) : s ∈ syms := by simpa [isSym] using h
theorem key_not_name {s : Bs} (h : isKey s = true) : isName s = false := by
  unfold isName; rw [h]; simp
theorem sym_not_name {s : Bs} (h : isSym s = true) : isName s = false := by
  unfold isName; rw [sym_nname s (sym_mem h)]; simp
theorem sym_not_key {s : Bs} (h : isSym s = true) : isKey s = false := by
  cases hk : isKey s with
  | false => rfl
  | true => rw [key_nsym s (key_mem hk)] at h; cases h
theorem nil_not_key : isKey [] = false := by decide
theorem nil_not_sym : isSym [] = false := by decide
/-- What a token that exists is, by its kind. -/
theorem may_ways {t : Tk} (h : may t = true) : (t.k = 1 ∧ isName t.tx = true ∧ t.n = 0) ∨ (t.k = 2 ∧ isKey t.tx = true ∧ t.n = 0) ∨ (t.k = 3 ∧ t.tx = []) ∨ (t.k = 4 ∧ t.tx = []) ∨ (t.k = 5 ∧ isSym t.tx = true ∧ t.n = 0) := by
  obtain ⟨k, a, tx, n⟩ := t
  unfold may at h
  rw [Bool.and_eq_true] at h
  have h2 := h.2
  dsimp only at h2 ⊢
  split at h2
  · simp only [Bool.and_eq_true, decide_eq_true_eq] at h2; exact .inl ⟨rfl, h2⟩
  · simp only [Bool.and_eq_true, decide_eq_true_eq] at h2; exact .inr (.inl ⟨rfl, h2⟩)
  · exact .inr (.inr (.inl ⟨rfl, by simpa using h2⟩))
  · simp only [Bool.and_eq_true] at h2; exact .inr (.inr (.inr (.inl ⟨rfl, by simpa using h2.1.1⟩)))
  · simp only [Bool.and_eq_true, decide_eq_true_eq] at h2; exact .inr (.inr (.inr (.inr ⟨rfl, h2⟩)))
  · cases h2
/-- A token that exists, without its place, or none. -/
def TkZ (t : Tk) : Prop := t = z0 ∨ (may t = true ∧ t.a = 0)
theorem at_z (l : List Tk) (i : Nat) : TkZ (atB l i) := at_may l i
theorem tx_key {t : Tk} {s : Bs} (h : TkZ t) (hk : isKey s = true) : t.tx = s ↔ t = kw s := by
  constructor
  · intro e
    subst e
    rcases h with rfl | ⟨hm, ha⟩
    · exact absurd hk (by decide)
    · obtain ⟨k, a, tx, n⟩ := t
      dsimp only at *
      subst ha
      rcases may_ways hm with ⟨_, h2, _⟩ | ⟨h1, _, h3⟩ | ⟨_, h2⟩ | ⟨_, h2⟩ | ⟨_, h2, _⟩
      · dsimp only at h2; rw [key_not_name hk] at h2; cases h2
      · dsimp only at h1 h3; subst h1 h3; rfl
      · dsimp only at h2; subst h2; cases hk
      · dsimp only at h2; subst h2; cases hk
      · dsimp only at h2; rw [sym_not_key h2] at hk; cases hk
  · rintro rfl; rfl
theorem tx_sym {t : Tk} {s : Bs} (h : TkZ t) (hk : isSym s = true) : t.tx = s ↔ t = sy s := by
  constructor
  · intro e
    subst e
    rcases h with rfl | ⟨hm, ha⟩
    · exact absurd hk (by decide)
    · obtain ⟨k, a, tx, n⟩ := t
      dsimp only at *
      subst ha
      rcases may_ways hm with ⟨_, h2, _⟩ | ⟨_, h2, _⟩ | ⟨_, h2⟩ | ⟨_, h2⟩ | ⟨h1, _, h3⟩
      · dsimp only at h2; rw [sym_not_name hk] at h2; cases h2
      · dsimp only at h2; rw [sym_not_key hk] at h2; cases h2
      · dsimp only at h2; subst h2; cases hk
      · dsimp only at h2; subst h2; cases hk
      · dsimp only at h1 h3; subst h1 h3; rfl
  · rintro rfl; rfl
theorem op_known1 : ∀ o, o < 27 → 1 ≤ o → isKey (opW o) = true ∨ isSym (opW o) = true := by decide
theorem tx_mk {t : Tk} {o : Nat} (h : TkZ t) (h1 : 1 ≤ o) (h2 : o ≤ 26) : t.tx = opW o ↔ t = mk o := by
  cases hk : isKey (opW o) with
  | true => unfold mk; rw [if_pos hk]; exact tx_key h hk
  | false =>
    unfold mk
    rw [if_neg (by rw [hk]; decide)]
    exact tx_sym h ((op_known1 o (by omega) h1).resolve_left (by rw [hk]; decide))
theorem wd_key1 : ∀ k, k < 4 → 1 ≤ k → isKey (wd k) = true := by decide
theorem tx_wd {t : Tk} {k : Nat} (h : TkZ t) (h1 : 1 ≤ k) (h3 : k ≤ 3) : t.tx = wd k ↔ t = kw (wd k) := tx_key h (wd_key1 k (by omega) h1)
theorem tx_words {t : Tk} (h : TkZ t) : (t.tx = wSize ↔ t = kw wSize) ∧ (t.tx = wFalse ↔ t = kw wFalse) ∧ (t.tx = wTrue ↔ t = kw wTrue) ∧ (t.tx = [40] ↔ t = lp) ∧ (t.tx = [41] ↔ t = rp) ∧ (t.tx = [91] ↔ t = lb) ∧ (t.tx = [93] ↔ t = rb) :=
  ⟨tx_key h (by decide), tx_key h (by decide), tx_key h (by decide), tx_sym h (by decide), tx_sym h (by decide), tx_sym h (by decide), tx_sym h (by decide)⟩
/-- Tokens of these kinds have no words. -/
theorem k_ntx {t : Tk} (h : TkZ t) : (t.k = 3 → t.tx = []) ∧ (t.k = 4 → t.tx = []) ∧ (t.k = 1 → isName t.tx = true) := by
  rcases h with rfl | ⟨hm, _⟩
  · exact ⟨fun h => absurd h (by decide), fun h => absurd h (by decide), fun h => absurd h (by decide)⟩
  · rcases may_ways hm with ⟨h1, h2, _⟩ | ⟨h1, _⟩ | ⟨h1, h2⟩ | ⟨h1, h2⟩ | ⟨h1, _⟩
    · exact ⟨fun h => by omega, fun h => by omega, fun _ => h2⟩
    · exact ⟨fun h => by omega, fun h => by omega, fun h => by omega⟩
    · exact ⟨fun _ => h2, fun h => by omega, fun h => by omega⟩
    · exact ⟨fun h => by omega, fun _ => h2, fun h => by omega⟩
    · exact ⟨fun h => by omega, fun h => by omega, fun h => by omega⟩
theorem find_at {t : Tk} {a n j : Nat} (h1 : a ≤ j) (h2 : j < a + n) (hj : t = mk j) (hb : ∀ i, a ≤ i → i < j → t ≠ mk i) : findO t a n = j := by
  unfold findO
  have e : (List.range' a n).find? (fun o => decide (t = mk o)) = some j := by
    rw [List.find?_range'_eq_some]
    refine ⟨decide_eq_true hj, by simp; omega, fun i g1 g2 => ?_⟩
    simp only [Bool.not_eq_true', decide_eq_false_iff_not]
    exact hb i g1 g2
  rw [e]; rfl
theorem type_at {t : Tk} {j : Nat} (h1 : 1 ≤ j) (h2 : j ≤ 3) (hj : t = kw (wd j)) (hb : ∀ i, 1 ≤ i → i < j → t ≠ kw (wd i)) : typeOf t = j := by
  subst hj
  match j, h1, h2 with
  | 1, _, _ => decide
  | 2, _, _ => decide
  | 3, _, _ => decide
theorem type_none {t : Tk} (hb : ∀ i, 1 ≤ i → i < 4 → t ≠ kw (wd i)) : typeOf t = 0 := by
  have h1 : t ≠ kw wInt := hb 1 (by omega) (by omega)
  have h2 : t ≠ kw wByte := hb 2 (by omega) (by omega)
  have h3 : t ≠ kw wBool := hb 3 (by omega) (by omega)
  unfold typeOf
  rw [if_neg h1, if_neg h2, if_neg h3]
/-! ### The fields that a kind has, as the program's table says them -/
/-- From and to: number, operator, type; a name; how many operands. -/
def fmT : List (Int × Int × Nat × Nat × Nat × Nat × Bool × Nat) := [(0, 0, 0, 0, 0, 0, false, 0), (-2147483648, 2147483647, 0, 0, 0, 0, false, 0), (0, 255, 0, 0, 0, 0, false, 0), (0, 1, 0, 0, 0, 0, false, 0), (0, 0, 0, 0, 0, 0, true, 0), (0, 0, 0, 0, 0, 0, true, 1), (0, 0, 23, 26, 0, 0, false, 1), (0, 0, 1, 22, 0, 0, false, 2), (0, 0, 0, 0, 1, 3, false, 1), (0, 0, 0, 0, 0, 0, true, 0)]
def fm (k : Nat) : Int × Int × Nat × Nat × Nat × Nat × Bool × Nat := fmT.getD k (0, 0, 0, 0, 0, 0, false, 0)
def fmB (e : Ex) : Bool := decide ((fm e.k).1 ≤ e.n) && (decide (e.n ≤ (fm e.k).2.1) && (decide ((fm e.k).2.2.1 ≤ e.o) && (decide (e.o ≤ (fm e.k).2.2.2.1) && (decide ((fm e.k).2.2.2.2.1 ≤ e.t) && (decide (e.t ≤ (fm e.k).2.2.2.2.2.1) && ((if (fm e.k).2.2.2.2.2.2.1 = true then isName e.s else decide (e.s = [])) && decide (e.l.length = (fm e.k).2.2.2.2.2.2.2)))))))
theorem own_fm (e : Ex) (hn : -2147483648 ≤ e.n ∧ e.n ≤ 2147483647) : ownE e = if e.k = 0 ∨ 10 ≤ e.k then false else fmB e := by
  unfold ownE fineE zeroE fmB fm prim parts
  generalize e.k = k at *
  generalize e.o = o at *
  generalize e.t = t at *
  generalize e.n = n at *
  generalize e.s = s at *
  generalize e.l.length = m at *
  clear e
  by_cases h : k = 0 ∨ 10 ≤ k
  · rw [if_pos h, if_neg (by omega), if_neg (by omega), if_neg (by omega), if_neg (by omega), if_neg (by omega), if_neg (by omega), if_neg (by omega)]
    rfl
  · rw [if_neg h]
    have : k = 1 ∨ k = 2 ∨ k = 3 ∨ k = 4 ∨ k = 5 ∨ k = 6 ∨ k = 7 ∨ k = 8 ∨ k = 9 := by omega
    rw [Bool.eq_iff_iff]
    rcases this with rfl | rfl | rfl | rfl | rfl | rfl | rfl | rfl | rfl
    all_goals
      simp only [fmT, Bool.and_eq_true, Bool.or_eq_true, decide_eq_true_eq, List.getD_cons_zero, List.getD_cons_succ, Nat.reduceEqDiff, if_true, if_false, reduceIte, Bool.false_eq_true, true_and, and_true, true_or, or_true, false_or, or_false]
      first
      | omega
      | (constructor
         · rintro ⟨h1, h2, h3⟩; simp_all; try omega
         · rintro h1; simp_all; try omega)
/-! ### Lists of trees that are still to be passed, the last one first -/
def pushS (S : List (List Ex)) (l : List Ex) : List (List Ex) := if l = [] then S else S ++ [l]
def totS : List (List Ex) → Nat
  | [] => 0
  | l :: S => szL l + totS S
theorem totS_app (S T : List (List Ex)) : totS (S ++ T) = totS S + totS T := by
  induction S with
  | nil => simp [totS]
  | cons l S ih => rw [List.cons_append, totS, totS, ih]; omega
theorem totS_push (S : List (List Ex)) (l : List Ex) : totS (pushS S l) = totS S + szL l := by
  unfold pushS
  by_cases h : l = []
  · rw [if_pos h, h, szL]; rfl
  · rw [if_neg h, totS_app, totS, totS]; omega
theorem tot_next (T : List (List Ex)) (x : Ex) (r : List Ex) : totS (pushS (pushS T r) x.l) + 1 = totS (T ++ [x :: r]) := by
  rw [totS_push, totS_push, totS_app, totS, totS, szL, szE_eq]; omega
def nmS : List (List Ex) → List Bs
  | [] => []
  | l :: S => nmS S ++ nmL l
theorem nmS_app (S : List (List Ex)) (l : List Ex) : nmS (S ++ [l]) = nmL l ++ nmS S := by
  induction S with
  | nil => simp [nmS]
  | cons x S ih => rw [List.cons_append, nmS, nmS, ih, List.append_assoc]
theorem nmS_push (S : List (List Ex)) (l : List Ex) : nmS (pushS S l) = nmL l ++ nmS S := by
  unfold pushS
  by_cases h : l = []
  · rw [if_pos h, h, nmL]; rfl
  · rw [if_neg h, nmS_app]
theorem nm_next (T : List (List Ex)) (x : Ex) (r : List Ex) : nmS (T ++ [x :: r]) = ownNm x.k x.s ++ nmS (pushS (pushS T r) x.l) := by
  rw [nmS_push, nmS_push, nmS_app, nmL, nmE_eq]; simp only [List.append_assoc]
/-- Equal in all fields but the parts, of which there are as many. -/
def sameA (a b : Ex) : Bool := decide (a.k = b.k) && (decide (a.o = b.o) && (decide (a.t = b.t) && (decide (a.n = b.n) && (decide (a.s = b.s) && decide (a.l.length = b.l.length)))))
def shp (S : List (List Ex)) : List Nat := S.map List.length
theorem sameA_no {a b : Ex} (h : sameA a b = false) : a ≠ b := by
  rintro rfl
  unfold sameA at h
  simp at h
theorem sameA_yes {a b : Ex} (h : sameA a b = true) : (a = b ↔ a.l = b.l) ∧ a.l.length = b.l.length := by
  obtain ⟨k, o, t, n, s, l⟩ := a
  obtain ⟨k', o', t', n', s', l'⟩ := b
  unfold sameA at h
  simp only [Bool.and_eq_true, decide_eq_true_eq] at h
  obtain ⟨h1, h2, h3, h4, h5, h6⟩ := h
  dsimp only [Ex.k, Ex.o, Ex.t, Ex.n, Ex.s, Ex.l] at *
  subst h1 h2 h3 h4 h5
  exact ⟨⟨fun e => by injection e, fun e => by rw [e]⟩, h6⟩
theorem push_shp {S T : List (List Ex)} {l m : List Ex} (h : shp S = shp T) (hl : l.length = m.length) : shp (pushS S l) = shp (pushS T m) := by
  unfold pushS
  by_cases h1 : l = []
  · have h2 : m = [] := List.eq_nil_of_length_eq_zero (by rw [← hl, h1]; rfl)
    rw [if_pos h1, if_pos h2]; exact h
  · have h2 : m ≠ [] := fun e => h1 (List.eq_nil_of_length_eq_zero (by rw [hl, e]; rfl))
    rw [if_neg h1, if_neg h2]
    unfold shp at *
    rw [List.map_append, List.map_append, h]
    simp [hl]
theorem push_inj {S T : List (List Ex)} {l m : List Ex} (h : shp S = shp T) (hl : l.length = m.length) : pushS S l = pushS T m ↔ S = T ∧ l = m := by
  unfold pushS
  by_cases h1 : l = []
  · have h2 : m = [] := List.eq_nil_of_length_eq_zero (by rw [← hl, h1]; rfl)
    rw [if_pos h1, if_pos h2, h1, h2]; simp
  · have h2 : m ≠ [] := fun e => h1 (List.eq_nil_of_length_eq_zero (by rw [hl, e]; rfl))
    rw [if_neg h1, if_neg h2]
    constructor
    · intro e
      have := List.append_inj' e rfl
      exact ⟨this.1, by simpa using this.2⟩
    · rintro ⟨rfl, rfl⟩; rfl
theorem shp_last {S T : List (List Ex)} {x : Ex} {r m : List Ex} (h : shp (S ++ [x :: r]) = shp (T ++ [m])) : shp S = shp T ∧ ∃ y q, m = y :: q ∧ r.length = q.length := by
  unfold shp at *
  rw [List.map_append, List.map_append] at h
  have h2 := List.append_inj' h rfl
  have h3 : (x :: r).length = m.length := by simpa using h2.2
  cases m with
  | nil => simp at h3
  | cons y q => exact ⟨h2.1, y, q, rfl, by simpa using h3⟩
/-- Both pass one tree: what is left is as equal as what was. -/
theorem same_next {S T : List (List Ex)} {x y : Ex} {r q : List Ex} (h : shp S = shp T) (hr : r.length = q.length) (ha : sameA x y = true) :
    (S ++ [x :: r] = T ++ [y :: q] ↔ pushS (pushS S r) x.l = pushS (pushS T q) y.l) ∧ shp (pushS (pushS S r) x.l) = shp (pushS (pushS T q) y.l) := by
  obtain ⟨h1, h2⟩ := sameA_yes ha
  refine ⟨?_, push_shp (push_shp h hr) h2⟩
  rw [push_inj (push_shp h hr) h2, push_inj h hr]
  constructor
  · intro e
    have e2 := List.append_inj' e rfl
    have e3 : x = y ∧ r = q := by simpa using e2.2
    exact ⟨⟨e2.1, e3.2⟩, h1.1 e3.1⟩
  · rintro ⟨⟨rfl, rfl⟩, e⟩
    rw [h1.2 e]
theorem same_last {S T : List (List Ex)} {x y : Ex} {r q : List Ex} (ha : sameA x y = false) : S ++ [x :: r] ≠ T ++ [y :: q] := fun e => by
  have e2 := List.append_inj' e rfl
  have e3 : x = y ∧ r = q := by simpa using e2.2
  exact sameA_no ha e3.1
end Go.Proofs.YtimbiobonigdmaaGreatDoor.L10
