/- Tokens of a line, their texts: what they are. Plain Lean. -/
import Derived.Test.YtblckajejohlbaaDoorNum
set_option linter.unusedVariables false
set_option linter.unusedSimpArgs false
set_option linter.unusedVariables false
set_option linter.unusedSimpArgs false
namespace Go.Proofs.YtblckajejohlbaaDoor.L8
open Go

abbrev Bs := List UInt8
/-- A token: its kind (1 name, 2 reserved word, 3 number, 4 byte, 5 symbol), its place, its text, its number. -/
structure Tk where
  k : Nat
  a : Int
  tx : Bs
  n : Int
deriving DecidableEq

/-! ### Words and symbols -/
def keys : List Bs := [[65, 70, 84, 69, 82], [65, 76, 84], [65, 78, 68], [66, 79, 79, 76], [66, 89, 84, 69], [67, 65, 83, 69], [67, 72, 65, 78], [69, 76, 83, 69], [70, 65, 76, 83, 69], [70, 79, 82], [73, 70], [73, 78, 84], [73, 83], [77, 73, 78, 85, 83], [78, 79, 84], [79, 70], [79, 82], [80, 65, 82], [80, 76, 65, 67, 69, 68], [80, 76, 85, 83], [80, 82, 73], [80, 82, 79, 67], [80, 82, 79, 67, 69, 83, 83, 79, 82], [80, 82, 79, 84, 79, 67, 79, 76], [83, 69, 81], [83, 73, 90, 69], [83, 75, 73, 80], [83, 84, 79, 80], [84, 73, 77, 69, 82], [84, 73, 77, 69, 83], [84, 82, 85, 69], [86, 65, 76], [87, 72, 73, 76, 69]]
def syms : List Bs := [[43], [45], [42], [47], [92], [47, 92], [92, 47], [62, 60], [60, 60], [62, 62], [61], [60, 62], [60], [62], [60, 61], [62, 61], [126], [58, 61], [63], [33], [38], [58], [59], [44], [40], [41], [91], [93]]
def letter (c : UInt8) : Bool := (decide (65 ≤ c.toNat) && decide (c.toNat ≤ 90)) || (decide (97 ≤ c.toNat) && decide (c.toNat ≤ 122))
def digit (c : UInt8) : Bool := decide (48 ≤ c.toNat) && decide (c.toNat ≤ 57)
def wordB (c : UInt8) : Bool := letter c || digit c || decide (c = 46)
def isKey (s : Bs) : Bool := keys.contains s
def isSym (s : Bs) : Bool := syms.contains s
def isName (s : Bs) : Bool := decide (1 ≤ s.length) && decide (s.length ≤ 32) && letter (s.headD 0) && !isKey s && s.all wordB
def may (t : Tk) : Bool := decide (0 ≤ t.a) && decide (t.a ≤ 255) && (match t.k with
  | 1 => isName t.tx && decide (t.n = 0)
  | 2 => isKey t.tx && decide (t.n = 0)
  | 3 => t.tx.isEmpty
  | 4 => t.tx.isEmpty && decide (0 ≤ t.n) && decide (t.n ≤ 255)
  | 5 => isSym t.tx && decide (t.n = 0)
  | _ => false)
/-! ### Reading a token -/
def numL (base : Nat) : Bs → Nat → Option Nat
  | [], n => some n
  | c :: cs, n => match dval base c with
    | some d => numL base cs (n * base + d)
    | none => none
/-- The value of 1 to most digits, if it is below the limit. -/
def value (base most limit : Nat) (s : Bs) : Option Nat :=
  if s.length < 1 ∨ most < s.length then none else match numL base s 0 with
  | some v => if v < limit then some v else none
  | none => none
def short (c : UInt8) : Option Nat :=
  if c = 99 then some 13 else if c = 110 then some 10 else if c = 116 then some 9 else if c = 115 then some 32 else if c = 39 then some 39 else if c = 34 then some 34 else if c = 42 then some 42 else none
/-- The byte for which a character stands, between the quotation marks. -/
def escape : Bs → Option Nat
  | [c] => if 32 ≤ c.toNat ∧ c.toNat ≤ 126 ∧ c ≠ 39 ∧ c ≠ 42 then some c.toNat else none
  | [b, c] => if b = 42 then short c else none
  | [b, h, x, y] => if b = 42 ∧ h = 35 then value 16 2 256 [x, y] else none
  | _ => none
/-- A character literal of n bytes. -/
def quote (s : Bs) (n : Nat) : Option (Nat × Nat) :=
  if n ≤ s.length then (match escape ((s.take (n - 1)).drop 1) with
    | some v => if s.getD (n - 1) 0 = 39 then some (v, n) else none
    | none => none) else none
def quoted (s : Bs) : Option (Nat × Nat) := [3, 4, 5, 6].findSome? (quote s)
def wrun (r : Bs) : Nat := (r.takeWhile wordB).length
/-- The token with which a text begins (kind, text, number), and its length. -/
def token : Bs → Option (Nat × Bs × Int × Nat)
  | [] => none
  | c :: r =>
    if letter c = true then
      (if isKey ((c :: r).take (1 + wrun r)) = true then some (2, (c :: r).take (1 + wrun r), 0, 1 + wrun r)
       else if isName ((c :: r).take (1 + wrun r)) = true then some (1, (c :: r).take (1 + wrun r), 0, 1 + wrun r) else none)
    else if digit c = true then
      (match value 10 10 2147483648 ((c :: r).take (1 + wrun r)) with | some v => some (3, [], (v : Int), 1 + wrun r) | none => none)
    else if c = 35 then
      (match value 16 8 4294967296 (((c :: r).take (1 + wrun r)).drop 1) with | some v => some (3, [], redW (v : Int), 1 + wrun r) | none => none)
    else if c = 39 then
      (match quoted (c :: r) with | some (v, n) => some (4, [], (v : Int), n) | none => none)
    else if 1 < (c :: r).length ∧ isSym ((c :: r).take 2) = true then some (5, (c :: r).take 2, 0, 2)
    else if isSym [c] = true then some (5, [c], 0, 1) else none
theorem quoted_len {s : Bs} {v n : Nat} (h : quoted s = some (v, n)) : 3 ≤ n ∧ n ≤ 6 ∧ n ≤ s.length ∧ escape ((s.take (n - 1)).drop 1) = some v ∧ s.getD (n - 1) 0 = 39 := by
  unfold quoted at h
  obtain ⟨m, hm, hq⟩ := List.exists_of_findSome?_eq_some h
  unfold quote at hq
  split at hq
  · split at hq
    · split at hq
      · rename_i h1 _ _ h2 h3
        injection hq with hq
        injection hq with e1 e2
        subst e1 e2
        simp only [List.mem_cons, List.not_mem_nil, or_false] at hm
        exact ⟨by omega, by omega, h1, h2, h3⟩
      · cases hq
    · cases hq
  · cases hq
theorem wrun_le (r : Bs) : wrun r ≤ r.length := (List.takeWhile_prefix _).length_le
/-! Its cases. -/
theorem token_word {c : UInt8} {r : Bs} (h : letter c = true) : token (c :: r) = if isKey ((c :: r).take (1 + wrun r)) = true then some (2, (c :: r).take (1 + wrun r), 0, 1 + wrun r)
       else if isName ((c :: r).take (1 + wrun r)) = true then some (1, (c :: r).take (1 + wrun r), 0, 1 + wrun r) else none := by
  unfold token; dsimp only; rw [if_pos h]
theorem token_num {c : UInt8} {r : Bs} (h : letter c = false) (h2 : digit c = true) : token (c :: r) = match value 10 10 2147483648 ((c :: r).take (1 + wrun r)) with | some v => some (3, [], (v : Int), 1 + wrun r) | none => none := by
  unfold token; dsimp only; rw [if_neg (by rw [h]; decide), if_pos h2]
theorem token_hex {r : Bs} : token (35 :: r) = match value 16 8 4294967296 (((35 :: r).take (1 + wrun r)).drop 1) with | some v => some (3, [], redW (v : Int), 1 + wrun r) | none => none := by
  unfold token; dsimp only; rw [if_neg (by decide), if_neg (by decide), if_pos rfl]
theorem token_quo {r : Bs} : token (39 :: r) = match quoted (39 :: r) with | some (v, n) => some (4, [], (v : Int), n) | none => none := by
  unfold token; dsimp only; rw [if_neg (by decide), if_neg (by decide), if_neg (by decide), if_pos rfl]
theorem token_sym {c : UInt8} {r : Bs} (h : letter c = false) (h2 : digit c = false) (h3 : c ≠ 35) (h4 : c ≠ 39) : token (c :: r) = if 1 < (c :: r).length ∧ isSym ((c :: r).take 2) = true then some (5, (c :: r).take 2, 0, 2)
    else if isSym [c] = true then some (5, [c], 0, 1) else none := by
  unfold token; dsimp only; rw [if_neg (by rw [h]; decide), if_neg (by rw [h2]; decide), if_neg h3, if_neg h4]
/-- The five ways. -/
theorem token_cases (c : UInt8) : letter c = true ∨ (letter c = false ∧ digit c = true) ∨ c = 35 ∨ c = 39 ∨ (letter c = false ∧ digit c = false ∧ c ≠ 35 ∧ c ≠ 39) := by
  by_cases h1 : letter c = true
  · exact .inl h1
  · by_cases h2 : digit c = true
    · exact .inr (.inl ⟨by simpa using h1, h2⟩)
    · by_cases h3 : c = 35
      · exact .inr (.inr (.inl h3))
      · by_cases h4 : c = 39
        · exact .inr (.inr (.inr (.inl h4)))
        · exact .inr (.inr (.inr (.inr ⟨by simpa using h1, by simpa using h2, h3, h4⟩)))
theorem some4 {α β γ δ : Type} {a a' : α} {b b' : β} {c c' : γ} {d d' : δ} (h : some (a, b, c, d) = some (a', b', c', d')) : a = a' ∧ b = b' ∧ c = c' ∧ d = d' := by
  injection h with h
  injection h with h1 h
  injection h with h2 h
  injection h with h3 h4
  exact ⟨h1, h2, h3, h4⟩
theorem token_len {s : Bs} {k : Nat} {tx : Bs} {v : Int} {n : Nat} (h : token s = some (k, tx, v, n)) : 1 ≤ n ∧ n ≤ s.length := by
  cases s with
  | nil => cases h
  | cons c r =>
    have hw := wrun_le r
    rcases token_cases c with h1 | ⟨h1, h2⟩ | rfl | rfl | ⟨h1, h2, h3, h4⟩
    · rw [token_word h1] at h
      split at h
      · have := (some4 h).2.2.2; simp only [List.length_cons]; omega
      · split at h
        · have := (some4 h).2.2.2; simp only [List.length_cons]; omega
        · cases h
    · rw [token_num h1 h2] at h
      split at h
      · have := (some4 h).2.2.2; simp only [List.length_cons]; omega
      · cases h
    · rw [token_hex] at h
      split at h
      · have := (some4 h).2.2.2; simp only [List.length_cons]; omega
      · cases h
    · rw [token_quo] at h
      split at h
      · rename_i v' n' hq
        have h5 := (some4 h).2.2.2
        have h6 := quoted_len hq
        omega
      · cases h
    · rw [token_sym h1 h2 h3 h4] at h
      split at h
      · rename_i hc
        have := (some4 h).2.2.2
        omega
      · split at h
        · have := (some4 h).2.2.2; simp only [List.length_cons]; omega
        · cases h
/-- The tokens of a text that begins at a place; or the place of what is in error. -/
def toks (s : Bs) (p : Nat) : Except Nat (List Tk) :=
  match s with
  | [] => .ok []
  | c :: r =>
    if c = 32 then toks r (p + 1)
    else match h : token (c :: r) with
      | none => .error p
      | some (k, tx, v, n) =>
        match toks ((c :: r).drop n) (p + n) with
        | .error e => .error e
        | .ok l => .ok (⟨k, p, tx, v⟩ :: l)
termination_by s.length
decreasing_by
  · simp
  · have := token_len h
    rw [List.length_drop]
    omega
/-- What Tokens answers: tokens, place, error. -/
def tokens (s : Bs) : List Tk × Int × Int :=
  if 256 < s.length then ([], 0, 3) else match toks s 0 with
  | .error p => ([], p, 80)
  | .ok l => (l, 0, 0)
/-! ### Writing tokens -/
def shown (v : Int) : Bs :=
  if v = 13 then [42, 99] else if v = 10 then [42, 110] else if v = 9 then [42, 116] else if v = 39 then [42, 39] else if v = 42 then [42, 42]
  else if 32 ≤ v ∧ v ≤ 126 then [UInt8.ofNat v.toNat] else [42, 35, hexDg (v.toNat / 16), hexDg (v.toNat % 16)]
def one (t : Tk) : Bs := if t.k = 3 then textL t.n (decide (t.n < 0)) else if t.k = 4 then 39 :: (shown t.n ++ [39]) else t.tx
def opens (t : Tk) : Bool := decide (t.k = 5) && (decide (t.tx = [40]) || decide (t.tx = [91]))
def closes (t : Tk) : Bool := decide (t.k = 5) && (decide (t.tx = [44]) || decide (t.tx = [59]) || decide (t.tx = [58]) || decide (t.tx = [41]) || decide (t.tx = [93]))
/-- No space between two tokens. -/
def near (a b : Tk) : Bool := (opens b && decide (a.k = 1)) || opens a || closes b
/-- What is written behind a token. -/
def behind (a : Tk) : List Tk → Bs
  | [] => []
  | b :: r => (if near a b = true then one b else 32 :: one b) ++ behind b r
def textT : List Tk → Bs
  | [] => []
  | t :: r => one t ++ behind t r
/-- What Text answers: text, error. -/
def text (l : List Tk) : Bs × Int := if l.all may = true then (if (textT l).length ≤ 256 then (textT l, 0) else ([], 3)) else ([], 2)
end Go.Proofs.YtblckajejohlbaaDoor.L8
