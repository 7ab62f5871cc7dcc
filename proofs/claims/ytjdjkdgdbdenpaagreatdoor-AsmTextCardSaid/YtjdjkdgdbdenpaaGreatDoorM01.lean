/- Plain arithmetic of machine words and their texts: what the decimal and hexadecimal texts of a word are, and that a text determines its word. -/
import Derived.Lib.ItoaNum
import Derived.WalkKit
import Derived.Lib.Hide
import Derived.Deep.QuietTactic
import Derived.WalkSpells
import Derived.WalkLawsBesides
import Derived.Handy
import Derived.Laws.Shifts
import Derived.BigQuiet
import Derived.Deep.AppendLies
import Derived.Laws.OwnMore
import Derived.OwnWalk
import Derived.Laws.CopyOwn
import Derived.Laws.BytesArg
import Derived.Lib.Case
import Derived.Test.YtjdjkdgdbdenpaaGreatDoorRows
set_option linter.unusedVariables false
set_option linter.unusedSimpArgs false
namespace Go.Proofs.YtjdjkdgdbdenpaaGreatDoor
open Go

/-- The byte of a digit. -/
def hexDg (d : Nat) : UInt8 := if d < 10 then UInt8.ofNat (48 + d) else UInt8.ofNat (55 + d)
/-- n hexadecimal digits of t. -/
def hexDigs : Nat → Nat → List UInt8
  | 0, _ => []
  | n + 1, t => hexDigs n (t / 16) ++ [hexDg (t % 16)]
/-- A word taken as unsigned. -/
def uns (v : Int) : Nat := (v % 4294967296).toNat
/-- The text of a word. -/
def textL (v : Int) (hex : Bool) : List UInt8 := if hex then 35 :: hexDigs 8 (uns v) else Lib.itoa v

/-- The value of a byte as a digit; none: it is no digit to that base. -/
def dval (base : Nat) (c : UInt8) : Option Nat :=
  if 48 ≤ c.toNat ∧ c.toNat ≤ 57 then some (c.toNat - 48)
  else if base = 16 ∧ 65 ≤ c.toNat ∧ c.toNat ≤ 70 then some (c.toNat - 55) else none

theorem dval_lt {base : Nat} {c : UInt8} {d : Nat} (hb : base = 10 ∨ base = 16) (h : dval base c = some d) : d < base := by
  unfold dval at h
  split at h
  · injection h with h; omega
  · split at h
    · injection h with h; omega
    · cases h

theorem dval_hexDg (d : Nat) (h : d < 16) : dval 16 (hexDg d) = some d := by
  have : ∀ d : Fin 16, dval 16 (hexDg d.val) = some d.val := by decide
  exact this ⟨d, h⟩
theorem dval_dec (d : Nat) (h : d < 10) : dval 10 (UInt8.ofNat (48 + d)) = some d := by
  have : ∀ d : Fin 10, dval 10 (UInt8.ofNat (48 + d.val)) = some d.val := by decide
  exact this ⟨d, h⟩

/-- The number that digits spell, each non-digit passed by. -/
def valL (base : Nat) (l : List UInt8) (n : Nat) : Nat := l.foldl (fun n c => match dval base c with | some d => n * base + d | none => n) n
/-- The number that digits spell, given up at a non-digit, and where the number has outgrown the words. -/
def natL (base : Nat) : List UInt8 → Nat → Option Nat
  | [], n => some n
  | c :: cs, n => match dval base c with
    | some d => if 4294967295 < n then none else natL base cs (n * base + d)
    | none => none

theorem valL_append (base : Nat) (a b : List UInt8) (n : Nat) : valL base (a ++ b) n = valL base b (valL base a n) := by
  unfold valL; rw [List.foldl_append]
theorem natL_valL {base : Nat} : ∀ (l : List UInt8) (n : Nat) {m : Nat}, natL base l n = some m → valL base l n = m
  | [], n, m, h => by simpa [natL, valL] using h
  | c :: cs, n, m, h => by
    unfold natL at h
    cases hd : dval base c with
    | none => rw [hd] at h; cases h
    | some d =>
      rw [hd] at h
      by_cases hn : 4294967295 < n
      · simp [hn] at h
      · simp only [if_neg hn] at h
        have := natL_valL cs (n * base + d) h
        unfold valL at this ⊢
        simp only [List.foldl_cons, hd]
        exact this
theorem natL_cons (base : Nat) (c : UInt8) (cs : List UInt8) (n : Nat) : natL base (c :: cs) n = (match dval base c with
    | some d => if 4294967295 < n then none else natL base cs (n * base + d)
    | none => none) := rfl
theorem natL_append {base : Nat} : ∀ (a b : List UInt8) (n : Nat), natL base (a ++ b) n = (natL base a n).bind fun m => natL base b m
  | [], b, n => rfl
  | c :: cs, b, n => by
    rw [List.cons_append, natL_cons, natL_cons]
    cases dval base c with
    | none => rfl
    | some d =>
      by_cases hn : 4294967295 < n
      · simp [hn]
      · simp only [if_neg hn]; exact natL_append cs b _

theorem natL_hex : ∀ (n t : Nat), n ≤ 8 → natL 16 (hexDigs n t) 0 = some (t % 16 ^ n)
  | 0, t, _ => by simp [hexDigs, natL, Nat.mod_one]
  | n + 1, t, hn => by
    have ih := natL_hex n (t / 16) (by omega)
    unfold hexDigs
    rw [natL_append, ih]
    have hd := dval_hexDg (t % 16) (Nat.mod_lt _ (by decide))
    have hp : 16 ^ n ≤ 16 ^ 7 := Nat.pow_le_pow_right (by decide) (by omega)
    have hlt : t / 16 % 16 ^ n < 16 ^ n := Nat.mod_lt _ (Nat.pow_pos (by decide))
    have h7 : (16 : Nat) ^ 7 = 268435456 := by decide
    simp only [Option.bind_some, natL, hd]
    rw [if_neg (by omega)]
    congr 1
    rw [Nat.pow_succ, Nat.mul_comm (16 ^ n) 16, Nat.mod_mul]
    omega
theorem natL_dec (t : Nat) (ht : t ≤ 42949672959) : natL 10 (Lib.decDigits t) 0 = some t := by
  induction t using Nat.strongRecOn with
  | _ t ih =>
    rw [Lib.decDigits]
    by_cases h : t < 10
    · rw [dif_pos h]
      rw [natL_cons, dval_dec t h]
      simp [natL]
    · rw [dif_neg h, natL_append, ih (t / 10) (by omega) (by omega)]
      simp only [Option.bind_some, natL, dval_dec (t % 10) (Nat.mod_lt _ (by decide))]
      rw [if_neg (by omega)]
      congr 1
      omega

theorem uns_lt (v : Int) : uns v < 4294967296 := by unfold uns; omega
theorem natL_text_hex (v : Int) : natL 16 (hexDigs 8 (uns v)) 0 = some (uns v) := by
  rw [natL_hex 8 _ (Nat.le_refl _), Nat.mod_eq_of_lt (uns_lt v)]
theorem hexDigs_length : ∀ n t, (hexDigs n t).length = n
  | 0, _ => rfl
  | n + 1, t => by unfold hexDigs; rw [List.length_append, hexDigs_length n]; rfl

/-- decimal digits are digits: the first is not a sign. -/
theorem decDigits_head (t : Nat) : ∃ c cs, Lib.decDigits t = c :: cs ∧ 48 ≤ c.toNat ∧ c.toNat ≤ 57 := by
  induction t using Nat.strongRecOn with
  | _ t ih =>
    rw [Lib.decDigits]
    by_cases h : t < 10
    · rw [dif_pos h]
      exact ⟨_, [], rfl, by simp; omega, by simp; omega⟩
    · rw [dif_neg h]
      obtain ⟨c, cs, e, h1, h2⟩ := ih (t / 10) (by omega)
      exact ⟨c, cs ++ [UInt8.ofNat (48 + t % 10)], by rw [e]; rfl, h1, h2⟩
/-- n digits of t to a base. -/
def lowDigs (base : Nat) : Nat → Nat → List UInt8
  | 0, _ => []
  | n + 1, t => lowDigs base n (t / base) ++ [hexDg (t % base)]
theorem lowDigs_cons (base : Nat) : ∀ (n t : Nat), lowDigs base (n + 1) t = hexDg (t / base ^ n % base) :: lowDigs base n t
  | 0, t => by simp [lowDigs]
  | n + 1, t => by
    have ih := lowDigs_cons base n (t / base)
    rw [lowDigs, ih, Nat.div_div_eq_div_mul, Nat.pow_succ, Nat.mul_comm base]
    rfl
theorem lowDigs_16 : ∀ (n t : Nat), lowDigs 16 n t = hexDigs n t
  | 0, _ => rfl
  | n + 1, t => by rw [lowDigs, hexDigs, lowDigs_16 n]
theorem hexDg_small {d : Nat} (h : d < 10) : hexDg d = UInt8.ofNat (48 + d) := by unfold hexDg; rw [if_pos h]
theorem lowDigs_dec (t : Nat) : lowDigs 10 (Lib.nDigits t) t = Lib.decDigits t := by
  induction t using Nat.strongRecOn with
  | _ t ih =>
    rw [Lib.decDigits]
    by_cases h : t < 10
    · rw [dif_pos h, Lib.nDigits_small h]
      simp only [lowDigs, List.nil_append]
      rw [Nat.mod_eq_of_lt h, hexDg_small h]
    · rw [dif_neg h, Lib.nDigits_big h, lowDigs, ih (t / 10) (by omega), hexDg_small (Nat.mod_lt _ (by decide))]
/-- The loop of digits goes on exactly below that many rounds. -/
def goesOn (base least t N : Nat) : Prop := ∀ k, k ≤ N → ((k < least ∨ 0 < t / base ^ k) ↔ k < N)
theorem goesOn_hex {t : Nat} (h : t < 4294967296) : goesOn 16 8 t 8 := by
  intro k hk
  constructor
  · rintro (h1 | h1)
    · exact h1
    · rcases Nat.lt_or_ge k 8 with h2 | h2
      · exact h2
      · obtain rfl : k = 8 := by omega
        have : t / 16 ^ 8 = 0 := Nat.div_eq_of_lt (by simpa using h)
        omega
  · exact fun h => .inl h
theorem nDigits_pow (t : Nat) : ∀ k, 1 ≤ k → (0 < t / 10 ^ k ↔ k < Lib.nDigits t) := by
  induction t using Nat.strongRecOn with
  | _ t ih =>
    intro k hk
    by_cases h : t < 10
    · rw [Lib.nDigits_small h]
      have h10 : 10 ^ 1 ≤ 10 ^ k := Nat.pow_le_pow_right (by decide) hk
      have : t / 10 ^ k = 0 := Nat.div_eq_of_lt (by omega)
      omega
    · rw [Lib.nDigits_big h]
      have e : t / 10 ^ k = t / 10 / 10 ^ (k - 1) := by
        rw [Nat.div_div_eq_div_mul]
        congr 1
        conv => lhs; rw [show k = k - 1 + 1 by omega, Nat.pow_succ, Nat.mul_comm]
      rw [e]
      by_cases h1 : k = 1
      · subst h1
        have := Lib.nDigits_pos (t / 10)
        simp
        omega
      · rw [ih (t / 10) (by omega) (k - 1) (by omega)]
        omega
theorem goesOn_dec (t : Nat) : goesOn 10 1 t (Lib.nDigits t) := by
  intro k hk
  have hp := Lib.nDigits_pos t
  by_cases h : k = 0
  · subst h
    exact ⟨fun _ => by omega, fun _ => .inl (by omega)⟩
  · have := nDigits_pow t k (by omega)
    rw [← this]
    constructor
    · rintro (h1 | h1)
      · omega
      · exact h1
    · exact fun h => .inr h
theorem nDigits_le (t : Nat) (h : t < 100000000000) : Lib.nDigits t ≤ 11 := by
  rcases Nat.lt_or_ge 11 (Lib.nDigits t) with h1 | h1
  · have := (nDigits_pow t 11 (by decide)).2 h1
    have : t / 10 ^ 11 = 0 := Nat.div_eq_of_lt (by simpa using h)
    omega
  · exact h1
/-- One step of the number that digits spell. -/
def stepV (base : Nat) (c : UInt8) (n : Nat) : Nat := match dval base c with | some d => n * base + d | none => n
/-- The same, as far as the digits below j have been looked at. -/
def stepTo (base : Nat) (c : UInt8) (n j : Nat) : Nat := match dval base c with | some d => if d < j then n * base + d else n | none => n
theorem stepTo_zero (base : Nat) (c : UInt8) (n : Nat) : stepTo base c n 0 = n := by unfold stepTo; split <;> simp
theorem stepTo_all {base : Nat} (hb : base = 10 ∨ base = 16) (c : UInt8) (n : Nat) : stepTo base c n base = stepV base c n := by
  unfold stepTo stepV
  cases h : dval base c with
  | none => rfl
  | some d => have := dval_lt hb h; simp [this]
theorem hexDg_dval {base j : Nat} (hb : base = 10 ∨ base = 16) (hj : j < base) (c : UInt8) : (hexDg j).toNat = c.toNat ↔ dval base c = some j := by
  have h1 : dval base (hexDg j) = some j := by
    rcases hb with rfl | rfl
    · rw [hexDg_small hj]; exact dval_dec j hj
    · exact dval_hexDg j hj
  constructor
  · intro h
    have : hexDg j = c := UInt8.toNat_inj.1 h
    rw [← this]; exact h1
  · intro h
    have h16 : j < 16 := by omega
    unfold dval at h
    split at h
    · injection h with h
      have : j < 10 := by omega
      rw [hexDg_small this]
      simp
      omega
    · split at h
      · injection h with h
        unfold hexDg
        rw [if_neg (by omega)]
        simp
        omega
      · cases h
theorem stepTo_hit {base : Nat} (c : UInt8) (n : Nat) {j : Nat} (h : dval base c = some j) : stepTo base c n j = n ∧ stepTo base c n (j + 1) = n * base + j := by
  unfold stepTo; rw [h]; simp
theorem stepTo_miss {base : Nat} (c : UInt8) (n : Nat) {j : Nat} (h : ¬ dval base c = some j) : stepTo base c n (j + 1) = stepTo base c n j := by
  unfold stepTo
  cases hd : dval base c with
  | none => rfl
  | some d =>
    have : d ≠ j := fun e => h (by rw [hd, e])
    by_cases h1 : d < j
    · simp [h1, show d < j + 1 by omega]
    · simp [h1, show ¬ d < j + 1 by omega]
theorem valL_snoc (base : Nat) (l : List UInt8) (c : UInt8) (n : Nat) : valL base (l ++ [c]) n = stepV base c (valL base l n) := by
  rw [valL_append]; rfl
theorem stepV_lt {base : Nat} (hb : base = 10 ∨ base = 16) (c : UInt8) {n b : Nat} (h : n < b) : stepV base c n < b * 16 := by
  unfold stepV
  cases hd : dval base c with
  | none => simp only; omega
  | some d =>
    have := dval_lt hb hd
    simp only
    rcases hb with rfl | rfl <;> omega
theorem valL_lt {base : Nat} (hb : base = 10 ∨ base = 16) (l : List UInt8) : ∀ (n b : Nat), n < b → valL base l n < b * 16 ^ l.length := by
  induction l with
  | nil => intro n b h; simpa [valL] using h
  | cons c cs ih =>
    intro n b h
    have h1 := ih _ _ (stepV_lt hb c h)
    rw [List.length_cons, Nat.pow_succ, Nat.mul_comm (16 ^ cs.length) 16, ← Nat.mul_assoc]
    exact h1
theorem valL_bd {base : Nat} (hb : base = 10 ∨ base = 16) (l : List UInt8) (h : l.length ≤ 11) : valL base l 0 ≤ 17592186044416 := by
  have h1 := valL_lt hb l 0 1 (by omega)
  have h2 : 16 ^ l.length ≤ 16 ^ 11 := Nat.pow_le_pow_right (by decide) h
  have h3 : (16 : Nat) ^ 11 = 17592186044416 := by decide
  omega
/-! ### What the two readers return -/
/-- A number, reduced. -/
def redW (n : Int) : Int := (n + 2147483648) % 4294967296 - 2147483648
/-- What is left of the word and the number that are read. -/
def keepT (l : List UInt8) (v : Int) (hex : Bool) : Int × Int := if textL v hex = l then (v, 0) else (0, 5)
/-- The number and the base that the reference takes a text for. -/
def guessR (l : List UInt8) : Int × Bool := match l with
  | 35 :: ds => ((valL 16 ds 0 : Nat), true)
  | 45 :: ds => (-(valL 10 ds 0 : Nat), false)
  | ds => ((valL 10 ds 0 : Nat), false)
def readR (l : List UInt8) : Int × Int := if 1 ≤ l.length ∧ l.length ≤ 11 then keepT l (redW (guessR l).1) (guessR l).2 else (0, 5)
/-- The number and the base that the program takes a text for. -/
def guessC (l : List UInt8) : Option (Int × Bool) := match l with
  | 35 :: ds => (natL 16 ds 0).map fun (n : Nat) => ((n : Int), true)
  | 45 :: ds => (natL 10 ds 0).map fun (n : Nat) => (-(n : Int), false)
  | ds => (natL 10 ds 0).map fun (n : Nat) => ((n : Int), false)
def readC (l : List UInt8) : Int × Int := match guessC l with
  | some (n, hex) => keepT l (redW n) hex
  | none => (0, 5)

theorem uns_red (v : Int) (h0 : -2147483648 ≤ v) (h1 : v ≤ 2147483647) : redW (uns v : Nat) = v := by unfold redW uns; omega
theorem redW_in (v : Int) (h0 : -2147483648 ≤ v) (h1 : v ≤ 2147483647) : redW v = v := by unfold redW; omega
theorem guessC_text (v : Int) (hex : Bool) (h0 : -2147483648 ≤ v) (h1 : v ≤ 2147483647) : ∃ n, guessC (textL v hex) = some (n, hex) ∧ redW n = v := by
  cases hex
  · by_cases hn : v < 0
    · have e : textL v false = 45 :: Lib.decDigits v.natAbs := by unfold textL Lib.itoa; simp [hn]
      refine ⟨-(v.natAbs : Int), ?_, ?_⟩
      · rw [e]
        simp only [guessC]
        rw [natL_dec _ (by omega)]
        rfl
      · rw [show -(v.natAbs : Int) = v by omega]
        exact redW_in v h0 h1
    · have e : textL v false = Lib.decDigits v.toNat := by unfold textL Lib.itoa; simp [hn]
      obtain ⟨c, cs, hc, c0, c1⟩ := decDigits_head v.toNat
      refine ⟨(v.toNat : Int), ?_, ?_⟩
      · have hd := natL_dec v.toNat (by omega)
        rw [e]
        rw [hc] at hd ⊢
        have n35 : c ≠ 35 := by rintro rfl; exact absurd c0 (by decide)
        have n45 : c ≠ 45 := by rintro rfl; exact absurd c0 (by decide)
        unfold guessC
        split
        · rename_i ds heq; injection heq with h _; exact absurd h n35
        · rename_i ds heq; injection heq with h _; exact absurd h n45
        · rw [hd]; rfl
      · rw [show (v.toNat : Int) = v by omega]
        exact redW_in v h0 h1
  · have e : textL v true = 35 :: hexDigs 8 (uns v) := by unfold textL; simp
    refine ⟨(uns v : Nat), ?_, uns_red v h0 h1⟩
    rw [e]
    simp only [guessC]
    rw [natL_text_hex]
    rfl
theorem guessR_of_C {l : List UInt8} {n : Int} {hex : Bool} (h : guessC l = some (n, hex)) : guessR l = (n, hex) := by
  unfold guessC at h
  unfold guessR
  split at h
  all_goals
    rw [Option.map_eq_some_iff] at h
    obtain ⟨m, hm, he⟩ := h
    have hv := natL_valL _ _ hm
    injection he with e1 e2
    subst e1 e2
    first | rw [← hv] | simp only [hv]
theorem decDigits_len (t : Nat) : (Lib.decDigits t).length ≤ 10 ∨ 10000000000 ≤ t := by
  rcases Nat.lt_or_ge t 10000000000 with h1 | h1
  · left
    rw [Lib.decDigits_length]
    rcases Nat.lt_or_ge 10 (Lib.nDigits t) with h2 | h2
    · have := (nDigits_pow t 10 (by decide)).2 h2
      have : t / 10 ^ 10 = 0 := Nat.div_eq_of_lt (by simpa using h1)
      omega
    · exact h2
  · exact .inr h1
theorem text_len (v : Int) (hex : Bool) (h0 : -2147483648 ≤ v) (h1 : v ≤ 2147483647) : 1 ≤ (textL v hex).length ∧ (textL v hex).length ≤ 11 := by
  cases hex
  · unfold textL Lib.itoa
    have hp : ∀ t, 1 ≤ (Lib.decDigits t).length := fun t => by rw [Lib.decDigits_length]; exact Lib.nDigits_pos t
    by_cases hn : v < 0
    · have h2 := decDigits_len v.natAbs
      simp [hn]
      omega
    · have h2 := decDigits_len v.toNat
      have := hp v.toNat
      simp [hn]
      omega
  · unfold textL
    simp [hexDigs_length]
theorem keepT_spec (l : List UInt8) (v : Int) (hex : Bool) : (keepT l v hex = (v, 0) ∧ textL v hex = l) ∨ (keepT l v hex = (0, 5) ∧ textL v hex ≠ l) := by
  unfold keepT
  by_cases h : textL v hex = l
  · exact .inl ⟨if_pos h, h⟩
  · exact .inr ⟨if_neg h, h⟩
theorem redW_bd (n : Int) : -2147483648 ≤ redW n ∧ redW n ≤ 2147483647 := by unfold redW; omega
/-- Each reads the text of a word as that word. -/
theorem readC_text (v : Int) (hex : Bool) (h0 : -2147483648 ≤ v) (h1 : v ≤ 2147483647) : readC (textL v hex) = (v, 0) := by
  obtain ⟨n, hg, hr⟩ := guessC_text v hex h0 h1
  unfold readC
  rw [hg]
  simp only [hr]
  unfold keepT
  rw [if_pos rfl]
theorem readR_text (v : Int) (hex : Bool) (h0 : -2147483648 ≤ v) (h1 : v ≤ 2147483647) : readR (textL v hex) = (v, 0) := by
  obtain ⟨n, hg, hr⟩ := guessC_text v hex h0 h1
  have hR := guessR_of_C hg
  unfold readR
  rw [if_pos (text_len v hex h0 h1), hR]
  simp only [hr]
  unfold keepT
  rw [if_pos rfl]
theorem readC_cases (l : List UInt8) : readC l = (0, 5) ∨ ∃ v hex, -2147483648 ≤ v ∧ v ≤ 2147483647 ∧ textL v hex = l := by
  unfold readC
  split
  · rename_i n hex _
    rcases keepT_spec l (redW n) hex with ⟨h, h'⟩ | ⟨h, _⟩
    · exact .inr ⟨_, _, (redW_bd n).1, (redW_bd n).2, h'⟩
    · exact .inl h
  · exact .inl rfl
theorem readR_cases (l : List UInt8) : readR l = (0, 5) ∨ ∃ v hex, -2147483648 ≤ v ∧ v ≤ 2147483647 ∧ textL v hex = l := by
  unfold readR
  split
  · rcases keepT_spec l (redW (guessR l).1) (guessR l).2 with ⟨h, h'⟩ | ⟨h, _⟩
    · exact .inr ⟨_, _, (redW_bd _).1, (redW_bd _).2, h'⟩
    · exact .inl h
  · exact .inl rfl
/-- Both readers return the same. -/
theorem readC_eq (l : List UInt8) : readC l = readR l := by
  rcases readC_cases l with h | ⟨v, hex, h0, h1, rfl⟩
  · rcases readR_cases l with h' | ⟨v, hex, h0, h1, rfl⟩
    · rw [h, h']
    · rw [readC_text v hex h0 h1, readR_text v hex h0 h1]
  · rw [readC_text v hex h0 h1, readR_text v hex h0 h1]
/-- A text is that of one word alone, in one form alone. -/
theorem text_inj {v u : Int} {hex dec : Bool} (h0 : -2147483648 ≤ v) (h1 : v ≤ 2147483647) (g0 : -2147483648 ≤ u) (g1 : u ≤ 2147483647) (h : textL v hex = textL u dec) : v = u ∧ hex = dec := by
  obtain ⟨n, hn, hr⟩ := guessC_text v hex h0 h1
  obtain ⟨m, hm, hs⟩ := guessC_text u dec g0 g1
  rw [h, hm] at hn
  injection hn with hn
  injection hn with e1 e2
  subst e1 e2
  exact ⟨hr.symm.trans hs, rfl⟩
end Go.Proofs.YtjdjkdgdbdenpaaGreatDoor
/- Encodings of instructions as lists of bytes: what they are, what is decoded from bytes, and what becomes of the one by the other. Plain arithmetic. -/

namespace Go.Proofs.YtjdjkdgdbdenpaaGreatDoor.C4
open Go Go.RowKit

/-- The encoding of a function with an operand that is not negative. -/
def encN (fn n : Nat) : List Nat := (if n < 16 then [] else encN 2 (n / 16)) ++ [16 * fn + n % 16]
termination_by n
decreasing_by omega
theorem encN_lo {fn n : Nat} (h : n < 16) : encN fn n = [16 * fn + n % 16] := by rw [encN, if_pos h]; rfl
theorem encN_hi {fn n : Nat} (h : ¬ n < 16) : encN fn n = encN 2 (n / 16) ++ [16 * fn + n % 16] := by rw [encN, if_neg h]
/-- The encoding of a function with any operand. -/
def enc (fn : Nat) (v : Int) : List Nat := if v < 0 then encN 6 ((-1 - v).toNat / 16) ++ [16 * fn + (v % 16).toNat] else encN fn v.toNat
theorem enc_neg {fn : Nat} {v : Int} (h : v < 0) : enc fn v = enc 6 ((-1 - v) / 16) ++ [16 * fn + (v % 16).toNat] := by
  rw [enc, if_pos h, enc, if_neg (by omega)]
  congr 2
  omega
theorem enc_lo {fn : Nat} {v : Int} (h : 0 ≤ v) (h' : v < 16) : enc fn v = [16 * fn + (v % 16).toNat] := by
  rw [enc, if_neg (by omega), encN_lo (by omega)]
  congr 2
  omega
theorem enc_hi {fn : Nat} {v : Int} (h : 16 ≤ v) : enc fn v = enc 2 (v / 16) ++ [16 * fn + (v % 16).toNat] := by
  rw [enc, if_neg (by omega), encN_hi (by omega), enc, if_neg (by omega)]
  congr 2
  · congr 1; omega
  · congr 2; omega
theorem encN_len {fn n : Nat} (k : Nat) (hk : 0 < k) (h : n < 16 ^ k) : 0 < (encN fn n).length ∧ (encN fn n).length ≤ k := by
  induction k generalizing fn n with
  | zero => omega
  | succ k ih =>
    by_cases h1 : n < 16
    · rw [encN_lo h1]; simp
    · rw [encN_hi h1]
      have hk1 : 0 < k := by
        rcases Nat.eq_zero_or_pos k with rfl | h0
        · omega
        · exact h0
      have := ih (fn := 2) (n := n / 16) hk1 (by rw [Nat.pow_succ] at h; omega)
      simp; omega
theorem enc_len_pos (fn : Nat) (v : Int) : 0 < (enc fn v).length := by
  unfold enc
  split
  · simp
  · rw [encN]; simp
/-- An operand of which n bytes can be made. -/
def fits (n : Nat) (v : Int) : Prop := (0 ≤ v ∧ v < (16 ^ n : Nat)) ∨ (1 < n ∧ -((16 ^ n : Nat) : Int) ≤ v ∧ v < 0)
theorem enc_fits {fn n : Nat} {v : Int} (h0 : 0 < n) (h : fits n v) : (enc fn v).length ≤ n := by
  unfold enc
  rcases h with ⟨a, b⟩ | ⟨a, b, c⟩
  · rw [if_neg (by omega)]
    exact (encN_len n h0 (by omega)).2
  · rw [if_pos c]
    obtain ⟨m, rfl⟩ : ∃ m, n = m + 1 := ⟨n - 1, by omega⟩
    have := (encN_len (fn := 6) (n := (-1 - v).toNat / 16) m (by omega) (by rw [Nat.pow_succ] at b; omega)).2
    simp; omega
theorem enc_len (fn : Nat) {v : Int} (h : -2147483648 ≤ v ∧ v ≤ 2147483647) : (enc fn v).length ≤ 8 := by
  refine enc_fits (by omega) ?_
  unfold fits
  have : (16 : Nat) ^ 8 = 4294967296 := by decide
  omega
theorem encN_by {fn n : Nat} (h : fn < 16) : ∀ x ∈ encN fn n, x < 256 := by
  induction n using Nat.strongRecOn generalizing fn with
  | ind n ih =>
    by_cases h1 : n < 16
    · rw [encN_lo h1]; intro x hx; simp at hx; omega
    · rw [encN_hi h1]
      intro x hx
      simp only [List.mem_append, List.mem_singleton] at hx
      rcases hx with hx | hx
      · exact ih (n / 16) (by omega) (by omega) x hx
      · omega
theorem enc_by {fn : Nat} {v : Int} (h : fn < 16) : ∀ x ∈ enc fn v, x < 256 := by
  unfold enc
  split
  · intro x hx
    simp only [List.mem_append, List.mem_singleton] at hx
    rcases hx with hx | hx
    · exact encN_by (by omega) x hx
    · omega
  · exact encN_by h

/-- The operand register behind a prefix. -/
def nx (o : Int) (c : Nat) : Int := wrap32 (16 * (if c / 16 = 6 then -1 - (o + (c % 16 : Nat)) else o + (c % 16 : Nat)))
/-- What is decoded: the function, the operand, the number of bytes, the error. -/
structure Got where
  fn : Nat
  arg : Int
  n : Nat
  e : Int
/-- Decoding, from a register on, of at most m bytes more, k having been decoded. -/
def gt : Nat → Int → Nat → List Nat → Got
  | 0, _, _, _ => ⟨0, 0, 0, 3⟩
  | _ + 1, _, _, [] => ⟨0, 0, 0, 40⟩
  | m + 1, o, k, c :: xs => if c / 16 = 2 ∨ c / 16 = 6 then gt m (nx o c) (k + 1) xs else ⟨c / 16, o + (c % 16 : Nat), k + 1, 0⟩
def get (xs : List Nat) : Got := gt 16 0 0 xs
theorem gt_nil (m : Nat) (o : Int) (k : Nat) : gt (m + 1) o k [] = ⟨0, 0, 0, 40⟩ := rfl
theorem gt_zero (o : Int) (k : Nat) (xs : List Nat) : gt 0 o k xs = ⟨0, 0, 0, 3⟩ := by cases xs <;> rfl
theorem gt_pre {m : Nat} {o : Int} {k c : Nat} {xs : List Nat} (h : c / 16 = 2 ∨ c / 16 = 6) : gt (m + 1) o k (c :: xs) = gt m (nx o c) (k + 1) xs := by
  show (if _ then _ else _) = _
  rw [if_pos h]
theorem gt_end {m : Nat} {o : Int} {k c : Nat} {xs : List Nat} (h : ¬ (c / 16 = 2 ∨ c / 16 = 6)) : gt (m + 1) o k (c :: xs) = ⟨c / 16, o + (c % 16 : Nat), k + 1, 0⟩ := by
  show (if _ then _ else _) = _
  rw [if_neg h]
/-- A register: a word whose last four bits are 0. -/
def Reg (o : Int) : Prop := -2147483648 ≤ o ∧ o ≤ 2147483632 ∧ o % 16 = 0
theorem nx_reg (o : Int) (c : Nat) : Reg (nx o c) := by
  unfold Reg nx wrap32
  split <;> omega
theorem reg_zero : Reg 0 := by unfold Reg; omega

theorem gt_n {m : Nat} {o : Int} {k : Nat} {xs : List Nat} (h : (gt m o k xs).e = 0) : k < (gt m o k xs).n ∧ (gt m o k xs).n ≤ k + m ∧ (gt m o k xs).n ≤ k + xs.length := by
  induction m generalizing o k xs with
  | zero => rw [gt_zero] at h; simp at h
  | succ m ih =>
    cases xs with
    | nil => rw [gt_nil] at h; simp at h
    | cons c xs =>
      by_cases hc : c / 16 = 2 ∨ c / 16 = 6
      · rw [gt_pre hc] at h ⊢
        have := ih h
        simp; omega
      · rw [gt_end hc]; simp
theorem gt_fails {m : Nat} {o : Int} {k : Nat} {xs : List Nat} (h : (gt m o k xs).e ≠ 0) : (gt m o k xs).fn = 0 ∧ (gt m o k xs).arg = 0 ∧ (gt m o k xs).n = 0 := by
  induction m generalizing o k xs with
  | zero => rw [gt_zero]; simp
  | succ m ih =>
    cases xs with
    | nil => rw [gt_nil]; simp
    | cons c xs =>
      by_cases hc : c / 16 = 2 ∨ c / 16 = 6
      · rw [gt_pre hc] at h ⊢
        exact ih h
      · rw [gt_end hc] at h; simp at h
def valid (fn : Nat) : Bool := decide (fn < 16 ∧ fn ≠ 2 ∧ fn ≠ 6)
theorem gt_word {m : Nat} {o : Int} {k : Nat} {xs : List Nat} (ho : Reg o) (hb : ∀ x ∈ xs, x < 256) : (gt m o k xs).fn < 256 ∧ -2147483648 ≤ (gt m o k xs).arg ∧ (gt m o k xs).arg ≤ 2147483647 ∧ (gt m o k xs).n ≤ k + m ∧ 0 ≤ (gt m o k xs).e ∧ (gt m o k xs).e ≤ 40 ∧
    ((gt m o k xs).e = 0 → valid (gt m o k xs).fn = true) := by
  induction m generalizing o k xs with
  | zero => rw [gt_zero]; simp
  | succ m ih =>
    cases xs with
    | nil => rw [gt_nil]; simp
    | cons c xs =>
      by_cases hc : c / 16 = 2 ∨ c / 16 = 6
      · rw [gt_pre hc]
        have := ih (k := k + 1) (nx_reg o c) (fun x hx => hb x (List.mem_cons_of_mem _ hx))
        refine ⟨this.1, this.2.1, this.2.2.1, ?_, this.2.2.2.2⟩
        omega
      · rw [gt_end hc]
        unfold Reg at ho
        have := hb c List.mem_cons_self
        simp [valid]
        refine ⟨?_, ?_, ?_, ?_⟩ <;> omega
/-- The bytes behind the instruction do not matter; without the last byte it is incomplete. -/
theorem gt_front {m : Nat} {o : Int} {k : Nat} {xs : List Nat} (h : (gt m o k xs).e = 0) (ys : List Nat) :
    gt m o k (xs.take ((gt m o k xs).n - k) ++ ys) = gt m o k xs ∧ gt m o k (xs.take ((gt m o k xs).n - 1 - k)) = ⟨0, 0, 0, 40⟩ := by
  induction m generalizing o k xs with
  | zero => rw [gt_zero] at h; simp at h
  | succ m ih =>
    cases xs with
    | nil => rw [gt_nil] at h; simp at h
    | cons c xs =>
      by_cases hc : c / 16 = 2 ∨ c / 16 = 6
      · rw [gt_pre hc] at h ⊢
        have h1 := gt_n h
        have h2 := ih h
        rw [show (gt m (nx o c) (k + 1) xs).n - k = ((gt m (nx o c) (k + 1) xs).n - (k + 1)) + 1 by omega, List.take_succ_cons, List.cons_append, gt_pre hc]
        refine ⟨h2.1, ?_⟩
        rw [show (gt m (nx o c) (k + 1) xs).n - 1 - k = ((gt m (nx o c) (k + 1) xs).n - 1 - (k + 1)) + 1 by omega, List.take_succ_cons, gt_pre hc]
        exact h2.2
      · rw [gt_end hc]
        simp only [show k + 1 - k = 1 by omega, show k + 1 - 1 - k = 0 by omega, List.take_zero, gt_nil, and_true]
        rw [show (c :: xs).take 1 = [c] from rfl, List.cons_append, gt_end hc]
/-- No sequence of bytes that decodes to an operand is shorter than its encoding. -/
theorem gt_short {m : Nat} {o : Int} {k : Nat} {xs : List Nat} (h : (gt m o k xs).e = 0) (hk : k < 8 → (k = 0 → o = 0) ∧ -((16 ^ (k + 1) : Nat) : Int) ≤ o ∧ o ≤ (16 ^ (k + 1) : Nat) - 16) (ho : Reg o) :
    8 ≤ (gt m o k xs).n ∨ fits (gt m o k xs).n (gt m o k xs).arg := by
  induction m generalizing o k xs with
  | zero => rw [gt_zero] at h; simp at h
  | succ m ih =>
    cases xs with
    | nil => rw [gt_nil] at h; simp at h
    | cons c xs =>
      by_cases hc : c / 16 = 2 ∨ c / 16 = 6
      · rw [gt_pre hc] at h ⊢
        refine ih h (fun hk1 => ?_) (nx_reg o c)
        obtain ⟨_, h1, h2⟩ := hk (by omega)
        refine ⟨by omega, ?_⟩
        have e : k = 0 ∨ k = 1 ∨ k = 2 ∨ k = 3 ∨ k = 4 ∨ k = 5 ∨ k = 6 := by omega
        unfold Reg at ho
        unfold nx wrap32
        rcases e with rfl | rfl | rfl | rfl | rfl | rfl | rfl <;> simp at h1 h2 ⊢ <;> (split <;> omega)
      · rw [gt_end hc]
        by_cases hk1 : 7 ≤ k
        · left; show 8 ≤ k + 1; omega
        · right
          obtain ⟨h0, h1, h2⟩ := hk (by omega)
          unfold fits
          show (0 ≤ o + ((c % 16 : Nat) : Int) ∧ o + ((c % 16 : Nat) : Int) < ((16 ^ (k + 1) : Nat) : Int)) ∨ (1 < k + 1 ∧ -((16 ^ (k + 1) : Nat) : Int) ≤ o + ((c % 16 : Nat) : Int) ∧ o + ((c % 16 : Nat) : Int) < 0)
          by_cases hk0 : k = 0
          · left; subst hk0; rw [h0 rfl]; simp; omega
          · by_cases hv : 0 ≤ o + ((c % 16 : Nat) : Int)
            · left; refine ⟨hv, ?_⟩; omega
            · right; refine ⟨by omega, ?_, by omega⟩; omega
theorem get_short {xs : List Nat} (h : (get xs).e = 0) (hb : ∀ x ∈ xs, x < 256) : (enc (get xs).fn (get xs).arg).length ≤ (get xs).n := by
  have h1 := gt_n h
  have h2 := gt_word (m := 16) (k := 0) reg_zero hb
  rcases gt_short (m := 16) (o := 0) (k := 0) (xs := xs) h (fun _ => by simp) reg_zero with h3 | h3
  · exact Nat.le_trans (enc_len _ ⟨h2.2.1, h2.2.2.1⟩) h3
  · exact enc_fits (by show 0 < (gt 16 0 0 xs).n; omega) h3
/-- The register behind the prefixes of an encoding. -/
theorem gt_encN {m k n p : Nat} (hp : p = 2 ∨ p = 6) (hn : n < 134217728) (hm : (encN p n).length ≤ m) (ys : List Nat) :
    gt m 0 k (encN p n ++ ys) = gt (m - (encN p n).length) (if p = 6 then -16 - 16 * (n : Int) else 16 * (n : Int)) (k + (encN p n).length) ys := by
  induction n using Nat.strongRecOn generalizing p m k ys with
  | ind n ih =>
    by_cases h1 : n < 16
    · rw [encN_lo h1] at hm ⊢
      obtain ⟨m', rfl⟩ : ∃ m', m = m' + 1 := ⟨m - 1, by simp at hm; omega⟩
      rw [List.cons_append, List.nil_append, gt_pre (by omega)]
      simp only [List.length_cons, List.length_nil, Nat.zero_add, Nat.add_sub_cancel]
      congr 1
      unfold nx wrap32
      rcases hp with rfl | rfl
      · rw [if_neg (by omega), if_neg (by omega)]; omega
      · rw [if_pos (by omega), if_pos (by omega)]; omega
    · rw [encN_hi h1] at hm ⊢
      rw [List.length_append] at hm
      simp only [List.length_cons, List.length_nil, Nat.zero_add] at hm
      rw [List.append_assoc, ih (n / 16) (by omega) (.inl rfl) (by omega) (by omega), if_neg (by omega)]
      obtain ⟨m', hm'⟩ : ∃ m', m - (encN 2 (n / 16)).length = m' + 1 := ⟨m - (encN 2 (n / 16)).length - 1, by omega⟩
      rw [hm', List.cons_append, List.nil_append, gt_pre (by omega), List.length_append]
      simp only [List.length_cons, List.length_nil, Nat.zero_add]
      rw [show m - ((encN 2 (n / 16)).length + 1) = m' by omega, show k + ((encN 2 (n / 16)).length + 1) = k + (encN 2 (n / 16)).length + 1 by omega]
      congr 1
      unfold nx wrap32
      rcases hp with rfl | rfl
      · rw [if_neg (by omega), if_neg (by omega)]; omega
      · rw [if_pos (by omega), if_pos (by omega)]; omega
/-- What is decoded from an encoding, whatever follows. -/
theorem gt_enc {fn m k : Nat} {v : Int} (hf : valid fn = true) (hv : -2147483648 ≤ v ∧ v ≤ 2147483647) (hm : (enc fn v).length ≤ m) (ys : List Nat) :
    gt m 0 k (enc fn v ++ ys) = ⟨fn, v, k + (enc fn v).length, 0⟩ := by
  have hf' : fn < 16 ∧ fn ≠ 2 ∧ fn ≠ 6 := by simpa [valid] using hf
  by_cases h0 : v < 0
  · have e1 : (-1 - v) / 16 = (((-1 - v).toNat / 16 : Nat) : Int) := by omega
    rw [enc_neg h0] at hm ⊢
    have e2 : enc 6 ((-1 - v) / 16) = encN 6 ((-1 - v).toNat / 16) := by rw [e1, enc, if_neg (by omega)]; congr 1
    rw [e2] at hm ⊢
    rw [List.length_append] at hm
    simp only [List.length_cons, List.length_nil, Nat.zero_add] at hm
    rw [List.append_assoc, gt_encN (.inr rfl) (by omega) (by omega), if_pos rfl]
    obtain ⟨m', hm'⟩ : ∃ m', m - (encN 6 ((-1 - v).toNat / 16)).length = m' + 1 := ⟨m - (encN 6 ((-1 - v).toNat / 16)).length - 1, by omega⟩
    rw [hm', List.cons_append, List.nil_append, gt_end (by omega), List.length_append]
    simp only [List.length_cons, List.length_nil, Nat.zero_add, Got.mk.injEq, and_true]
    refine ⟨by omega, by omega, by omega⟩
  · by_cases h1 : v < 16
    · rw [enc_lo (by omega) h1] at hm ⊢
      obtain ⟨m', rfl⟩ : ∃ m', m = m' + 1 := ⟨m - 1, by simp at hm; omega⟩
      rw [List.cons_append, List.nil_append, gt_end (by omega)]
      simp only [List.length_cons, List.length_nil, Nat.zero_add, Got.mk.injEq, and_true]
      refine ⟨by omega, by omega⟩
    · rw [enc_hi (by omega)] at hm ⊢
      have e1 : v / 16 = ((v.toNat / 16 : Nat) : Int) := by omega
      have e2 : enc 2 (v / 16) = encN 2 (v.toNat / 16) := by rw [e1, enc, if_neg (by omega)]; congr 1
      rw [e2] at hm ⊢
      rw [List.length_append] at hm
      simp only [List.length_cons, List.length_nil, Nat.zero_add] at hm
      rw [List.append_assoc, gt_encN (.inl rfl) (by omega) (by omega), if_neg (by omega)]
      obtain ⟨m', hm'⟩ : ∃ m', m - (encN 2 (v.toNat / 16)).length = m' + 1 := ⟨m - (encN 2 (v.toNat / 16)).length - 1, by omega⟩
      rw [hm', List.cons_append, List.nil_append, gt_end (by omega), List.length_append]
      simp only [List.length_cons, List.length_nil, Nat.zero_add, Got.mk.injEq, and_true]
      refine ⟨by omega, by omega, by omega⟩
theorem gt_pad {m k j : Nat} (xs : List Nat) : gt (m + j) 0 k (List.replicate j 32 ++ xs) = gt m 0 (k + j) xs := by
  induction j generalizing k with
  | zero => simp
  | succ j ih =>
    rw [List.replicate_succ, List.cons_append, ← Nat.add_assoc, gt_pre (by omega), show nx 0 32 = 0 by unfold nx wrap32; simp, ih]
    congr 1; omega
theorem get_enc {fn : Nat} {v : Int} (hf : valid fn = true) (hv : -2147483648 ≤ v ∧ v ≤ 2147483647) (ys : List Nat) : get (enc fn v ++ ys) = ⟨fn, v, (enc fn v).length, 0⟩ := by
  unfold get
  rw [gt_enc hf hv (by have := enc_len fn hv; omega), Nat.zero_add]
theorem get_pad {fn : Nat} {v : Int} (hf : valid fn = true) (hv : -2147483648 ≤ v ∧ v ≤ 2147483647) {j : Nat} (hj : j + (enc fn v).length ≤ 16) : get (List.replicate j 32 ++ enc fn v) = ⟨fn, v, j + (enc fn v).length, 0⟩ := by
  unfold get
  obtain ⟨m, hm⟩ : ∃ m, 16 = m + j := ⟨16 - j, by omega⟩
  rw [hm, gt_pad]
  have := gt_enc (m := m) (k := 0 + j) hf hv (by omega) []
  rw [List.append_nil] at this
  rw [this, Nat.zero_add]
end Go.Proofs.YtjdjkdgdbdenpaaGreatDoor.C4
/- Slices of bytes: what can be read, what is a row of a call's own, appends, strings; frames. -/
namespace Go.Proofs.YtjdjkdgdbdenpaaGreatDoor.C4
open Go Go.RowKit

/-- A word; the word of a number. -/
def isW (a : Int) : Prop := -2147483648 ≤ a ∧ a ≤ 2147483647
theorem isW_wrap32 (x : Int) : isW (wrap32 x) := by unfold isW wrap32; omega
theorem isW_of_wf {a : Int} (h : (Lit.int .i32 a).wf = true) : isW a := by
  simp only [Lit.wf, IntKind.min, IntKind.max, IntKind.signed, IntKind.bits, Bool.and_eq_true, decide_eq_true_eq, if_true] at h
  exact ⟨by omega, by omega⟩
theorem ret_i {k : IntKind} {a b : Int} (h : a = b) : Ending.returned (.int k a) = .returned (.int k b) := by rw [h]
theorem ret_ii {k l : IntKind} {a b c d : Int} (h : a = b) (h' : c = d) : Ending.returned (.tuple #[.int k a, .int l c]) = .returned (.tuple #[.int k b, .int l d]) := by rw [h, h']
theorem ret_b {p q : Bool} (h : p = q) : Ending.returned (.bool p) = .returned (.bool q) := by rw [h]
theorem at_ {P : Program} {f : FuncId} {args : Array Value} {w : World} {R : World → Prop} {x y : Ending} (h : Calls P f args w fun e w' => e = x ∧ R w') (hxy : x = y) : Calls P f args w fun e w' => e = y ∧ R w' := by subst hxy; exact h

/-- The cells of a list of bytes. -/
def bs (xs : List Nat) : List Value := xs.map fun (n : Nat) => Value.int .u8 (n : Int)
def bc (xs : List Nat) (j : Nat) : Value := .int .u8 ((xs.getD j 0 : Nat) : Int)
theorem bs_len (xs : List Nat) : (bs xs).length = xs.length := by simp [bs]
theorem bs_at {xs : List Nat} {j : Nat} (h : j < xs.length) : (bs xs)[j]? = some (bc xs j) := by simp [bs, bc, h]
theorem bs_app (xs ys : List Nat) : bs (xs ++ ys) = bs xs ++ bs ys := by simp [bs]
theorem bs_set (xs : List Nat) (i v : Nat) : bs (xs.set i v) = (bs xs).set i (.int .u8 (v : Int)) := by simp [bs]
theorem bs_one (xs : List Nat) : ∀ v ∈ bs xs, v.oneCell' = true := by
  intro v hv
  simp only [bs, List.mem_map] at hv
  obtain ⟨n, _, rfl⟩ := hv
  rfl
def BY (xs : List Nat) : Prop := ∀ x ∈ xs, x < 256
theorem BY.get {xs : List Nat} (h : BY xs) (j : Nat) : xs.getD j 0 < 256 := by
  by_cases hj : j < xs.length
  · have e : xs.getD j 0 = xs[j] := by simp [hj]
    rw [e]
    exact h _ (List.getElem_mem hj)
  · have e : xs.getD j 0 = 0 := by simp [List.getElem?_eq_none (show xs.length ≤ j by omega)]
    rw [e]; omega

/-! Frames. -/
theorem g_trans {a b c : World} {r : Option Nat} (h : a.grownBy b r) (k : b.grownBy c r) : a.grownBy c r :=
  ⟨k.os.trans h.os, k.tape.trans h.tape, k.output.trans h.output, Nat.le_trans h.size k.size, fun i hi hr => (k.block i (Nat.lt_of_lt_of_le hi h.size) hr).trans (h.block i hi hr)⟩
theorem g_wide {a b : World} {r : Option Nat} (h : a.grownBy b none) : a.grownBy b r := ⟨h.os, h.tape, h.output, h.size, fun i hi _ => h.block i hi (by simp)⟩
theorem g_new {a b c : World} {g : Nat} (h : a.grownBy b none) (k : b.grownBy c (some g)) (hg : a.heap.size ≤ g) : a.grownBy c none :=
  ⟨k.os.trans h.os, k.tape.trans h.tape, k.output.trans h.output, Nat.le_trans h.size k.size, fun i hi _ => (k.block i (Nat.lt_of_lt_of_le hi h.size) (by intro e; cases e; omega)).trans (h.block i hi (by simp))⟩
theorem g_set (w : World) (g i : Nat) (u : Value) : w.grownBy (w.setCell ⟨g, i, none⟩ u) (some g) :=
  ⟨rfl, rfl, rfl, by simp [World.setCell], fun k _ hne => Below.heap_setCell _ _ _ _ (fun e => hne (by rw [e]))⟩
theorem g_row (w : World) (g : Nat) (cs : Array Value) : w.grownBy (w.setRow g cs) (some g) :=
  ⟨rfl, rfl, rfl, by simp [World.setRow], fun k _ hne => setRow_other w g k _ (fun e => hne (by rw [e]))⟩
theorem g_below {a b : World} {g B : Nat} (h : a.grownBy b (some g)) (hg : B ≤ g) (hB : B ≤ a.heap.size) : Below B a b :=
  ⟨h.os, h.tape, h.output, h.size, fun k hk => h.block k (by omega) (by intro e; cases e; omega)⟩
theorem g_of_below {a b : World} (h : Below a.heap.size a b) : a.grownBy b none := ⟨h.os, h.tape, h.output, h.size, fun k hk _ => h.block k hk⟩
theorem g_below0 {a b : World} (h : a.grownBy b none) : Below a.heap.size a b := ⟨h.os, h.tape, h.output, h.size, fun k hk => h.block k hk (by simp)⟩
theorem g_drew {a b : World} {r : Option Nat} (h : a.grownBy b r) (n : Nat) : a.grownBy (b.drewN n) r := by
  induction n with
  | zero => exact h
  | succ n ih => exact ⟨ih.os, ih.tape, ih.output, ih.size, ih.block⟩

theorem heap_lt {w : World} {k : Nat} {o : Obj} (h : w.heap[k]? = some o) : k < w.heap.size := (Array.getElem?_eq_some_iff.1 h).1
/-! Slices of bytes that can be read. -/
structure RS (w : World) (A : Option Addr) (c : Nat) (xs : List Nat) : Prop where
  le : xs.length ≤ c
  mx : c ≤ maxLen
  by_ : BY xs
  rd : ∀ j, j < xs.length → ∃ ad, A = some ad ∧ w.cell? (ad.add j) = some (bc xs j)
def Sep (A : Option Addr) (g : Nat) : Prop := ∀ ad, A = some ad → ad.block ≠ g
/-- The slice A' is the slice A, or lies in new memory. -/
def New (w : World) (A A' : Option Addr) : Prop := A' = A ∨ ∀ ad, A' = some ad → w.heap.size ≤ ad.block
def Fresh (w : World) (A : Option Addr) : Prop := ∀ ad, A = some ad → w.heap.size ≤ ad.block
theorem New.sep {w : World} {A A' : Option Addr} {g : Nat} (h : New w A A') (hs : Sep A g) (hg : g < w.heap.size) : Sep A' g := by
  rcases h with rfl | h
  · exact hs
  · intro ad e e'
    have := h ad e
    omega
theorem Fresh.sep {w : World} {A : Option Addr} {g : Nat} (h : Fresh w A) (hg : g < w.heap.size) : Sep A g := by
  intro ad e e'
  have := h ad e
  omega
theorem lt_of_cell {w : World} {a : Addr} {v : Value} (h : w.cell? a = some v) : a.block < w.heap.size := World.block_lt_of_cell? w a h
theorem add_block (a : Addr) (n : Nat) : (a.add n).block = a.block := by unfold Addr.add; split <;> rfl
theorem add_add_ (a : Addr) (i j : Nat) : (a.add i).add j = a.add (i + j) := by
  unfold Addr.add
  by_cases hi : i = 0 <;> by_cases hj : j = 0 <;> simp [hi, hj, Nat.add_assoc]
theorem add_plain (g o j : Nat) : (⟨g, o, none⟩ : Addr).add j = ⟨g, o + j, none⟩ := by unfold Addr.add; split <;> simp_all
theorem RS.nil (w : World) : RS w none 0 [] := ⟨Nat.le_refl _, by simp [maxLen], (fun _ h => (by cases h)), (fun j h => absurd h (by simp))⟩
theorem RS.kept {w w' : World} {A : Option Addr} {c : Nat} {xs : List Nat} {r : Option Nat} (h : RS w A c xs) (hg : w.grownBy w' r) (hs : ∀ ad, A = some ad → some ad.block ≠ r) : RS w' A c xs :=
  ⟨h.le, h.mx, h.by_, fun j hj => by
    obtain ⟨ad, e, hc⟩ := h.rd j hj
    exact ⟨ad, e, hg.cell hc (by rw [add_block]; exact hs ad e)⟩⟩
theorem RS.kept0 {w w' : World} {A : Option Addr} {c : Nat} {xs : List Nat} (h : RS w A c xs) (hg : w.grownBy w' none) : RS w' A c xs := h.kept hg (by simp)
theorem RS.keptS {w w' : World} {A : Option Addr} {c g : Nat} {xs : List Nat} (h : RS w A c xs) (hg : w.grownBy w' (some g)) (hs : Sep A g) : RS w' A c xs := h.kept hg (fun ad e he => hs ad e (by cases he; rfl))
theorem RS.keptP {w w' : World} {A : Option Addr} {c g : Nat} {xs : List Nat} (h : RS w A c xs) (hg : w.grownBy w' (some g)) (hs : 0 < xs.length → Sep A g) : RS w' A c xs :=
  ⟨h.le, h.mx, h.by_, fun j hj => (h.keptS hg (hs (by omega))).rd j hj⟩
/-- A row of the call's own. -/
def OwnB (w : World) (B : Nat) (A : Option Addr) (c : Nat) (xs : List Nat) : Prop := w.ownsRow B 5 1 (.slice A xs.length c) xs.length (bs xs)
theorem OwnB.rs {w : World} {B c : Nat} {A : Option Addr} {xs : List Nat} (h : OwnB w B A c xs) (hb : BY xs) : RS w A c xs ∧ (∀ ad, A = some ad → B ≤ ad.block) ∧ (A = none ∨ ∃ g, A = some ⟨g, 0, none⟩) := by
  rcases h.2 with ⟨hv, h0⟩ | ⟨g, cap, cur, hv, hB, hh, hnc, hm, hcs, hx⟩
  · injection hv with h1 h2 h3
    subst h1
    obtain rfl : xs = [] := List.eq_nil_of_length_eq_zero h0
    exact ⟨⟨by simp, by rw [h3]; simp [maxLen], hb, (fun j h => absurd h (by simp))⟩, (fun _ e => (by cases e)), .inl rfl⟩
  · injection hv with h1 h2 h3
    subst h1 h3
    refine ⟨⟨hnc, hm, hb, fun j hj => ⟨_, rfl, ?_⟩⟩, (fun ad e => by cases e; exact hB), .inr ⟨g, rfl⟩⟩
    exact World.ownsRow.cells h rfl j _ (bs_at hj)
theorem byte_info : (Tryz.prog.info? 5).map (fun i => (i.zero, i.size, i.bytes)) = some (some (.int .u8 0), 1, 1) := by kernel_rfl
theorem RS.some_ {A : Option Addr} {c : Nat} {xs : List Nat} {w : World} (R : RS w A c xs) (h : 0 < xs.length) : ∃ ad, A = some ad ∧ ∀ j, j < xs.length → w.cell? (ad.add j) = some (bc xs j) := by
  obtain ⟨ad, rfl, _⟩ := R.rd 0 h
  refine ⟨ad, rfl, fun j hj => ?_⟩
  obtain ⟨ad', e, hc⟩ := R.rd j hj
  cases e
  exact hc
theorem add_succ_ (a : Addr) (k : Nat) : a.add (k + 1) = ⟨a.block, a.off + (k + 1), none⟩ := by unfold Addr.add; simp
/-- The string of a list of bytes. -/
def str (xs : List Nat) : ByteArray := strOfNums (xs.map fun (n : Nat) => (n : Int))
theorem str_any {A : Option Addr} {c : Nat} {xs : List Nat} {w : World} (R : RS w A c xs) (n : Nat) (hn : n = xs.length) : (convert 35 9 (.slice A n c)).run Tryz.prog w = .ok (.string (str xs)) w := by
  subst hn
  rcases A with _ | ad
  · have h0 : xs = [] := by
      rcases Nat.eq_zero_or_pos xs.length with h | h
      · exact List.eq_nil_of_length_eq_zero h
      · obtain ⟨ad, e, _⟩ := R.rd 0 h
        cases e
    subst h0
    exact run_convert_bytes_nil w _ _ Tryz.underlying35 Tryz.underlying5 _ _ _ Tryz.underlying9
  · rw [run_convert_bytes_string w _ _ 5 _ _ _ Tryz.underlying35 Tryz.underlying5 Tryz.underlying9]
    have hl : (loadCells ad xs.length).run Tryz.prog w = .ok ((xs.map fun (n : Nat) => (n : Int)).map (Value.int .u8)).toArray w := by
      have := run_loadCells_list (P := Tryz.prog) w ad (bs xs) (fun j v hj => by
        by_cases h : j < xs.length
        · obtain ⟨ad', e, hc⟩ := R.rd j h
          cases e
          rw [bs_at h] at hj
          cases hj
          exact hc
        · rw [List.getElem?_eq_none (by rw [bs_len]; omega)] at hj; cases hj)
      rw [bs_len] at this
      rw [this]
      simp [bs]
    rw [run_bytesToString w ad _ c _ hl, foldl_push_bytes]
    simp [str, strOfNums, ByteArray.empty, ByteArray.emptyWithCapacity]
    rfl
theorem g_app {w0 w w' : World} {v : Value} {n : Nat} {xs : List Value} {e : TypeId} (h : w0.grownBy w none) (hown : w.ownsRow w0.heap.size e 1 v n xs) (k : w.grownBy w' v.ownBlock) : w0.grownBy w' none :=
  ⟨k.os.trans h.os, k.tape.trans h.tape, k.output.trans h.output, Nat.le_trans h.size k.size, fun i hi _ => (k.block i (Nat.lt_of_lt_of_le hi h.size) (fun e => by have := (hown.lt i e.symm).1; omega)).trans (h.block i hi (by simp))⟩
set_option maxRecDepth 100000 in
/-- Bytes appended to a row of the call's own. -/
theorem app_bytes {w : World} {ops : Array Oper} {rest : List Oper} {o : Oper} {a : Act} {Q : Exit → Act → World → Prop} (hgd : o.guard = none) (s x : Operand)
    (ho : o.op = .call { callee := .builtin .append, args := #[s, x], argTypes := #[35, 35] }) (base n c m d l : Nat) (A A' : Option Addr) (xs ys : List Nat) (hs : a.eval s = .slice A n c) (hx : a.eval x = .slice A' m d)
    (hown : w.ownsRow base 5 1 (.slice A n c) n (bs xs)) (hy : ys.length = m) (hsrc : ∀ j, j < ys.length → ∃ ad, A' = some ad ∧ w.cell? (ad.add j) = some (bc ys j)) (hl : n + m = l) (h63 : l ≤ 200000) (hbase : base ≤ w.heap.size)
    (h : ∀ A2 c2 w', w'.ownsRow base 5 1 (.slice A2 l c2) l (bs (xs ++ ys)) → w.grownBy w' (Value.slice A n c).ownBlock → wpList Tryz.prog ops Q rest (a.put o.dst (.slice A2 l c2)) w') : wpList Tryz.prog ops Q (o :: rest) a w := by
  obtain ⟨i0, hi0, hz0, hz1, hz2⟩ := info_parts byte_info
  have done : ∀ v' w', w'.ownsRow base 5 1 v' (n + m) (bs xs ++ bs ys) → w.grownBy w' (Value.slice A n c).ownBlock → wpList Tryz.prog ops Q rest (a.put o.dst v') w' := by
    intro v' w' ho' hg'
    rw [← bs_app, hl] at ho'
    rcases ho'.2 with ⟨rfl, h0⟩ | ⟨g, cap, cur, rfl, _⟩
    · rw [h0] at ho' h
      exact h none 0 w' ho' hg'
    · exact h _ _ w' ho' hg'
  rcases A' with _ | ad
  · have h0 : ys = [] := by
      rcases Nat.eq_zero_or_pos ys.length with h | h
      · exact List.eq_nil_of_length_eq_zero h
      · obtain ⟨ad, e, _⟩ := hsrc 0 h
        cases e
    subst h0
    rw [List.length_nil] at hy
    subst hy
    have hrun : (Builtin.append_ #[35, 35] o.type #[.slice A n c, .slice none 0 d]).run Tryz.prog w = .ok (.slice A n c) w := by
      rcases hown.2 with ⟨hv, h0⟩ | ⟨g, cap, cur, hv, _, _, hnc, _⟩
      · injection hv with h1 h2 h3
        subst h1; subst h3
        simp [Builtin.append_, run_underlying Tryz.underlying35, sizeOf, typeInfo, hi0, Builtin.lenOf, Builtin.firstCells, h0]
      · injection hv with h1 h2 h3
        subst h1; subst h3
        simp [Builtin.append_, run_underlying Tryz.underlying35, sizeOf, typeInfo, hi0, Builtin.lenOf, Builtin.firstCells, hnc, storeCells]
    refine wpList_plain hgd fun K hK => ?_
    unfold Oper.wp execOp
    simp only [ho, resolve, invoke, builtin, Sem.run_bind, Sem.run_pure, Result.andThen_ok, List.map_toArray, List.map_cons, List.map_nil, hs, hx, hrun]
    exact hK _ _ (done _ w (by simpa [bs] using hown) (World.grownBy.refl w _))
  · have hcell : ∀ j u, (bs ys)[j]? = some u → w.cell? (ad.add j) = some u := by
      intro j u hj
      by_cases h : j < ys.length
      · obtain ⟨ad', e, hc⟩ := hsrc j h
        cases e
        rw [bs_at h] at hj
        cases hj
        exact hc
      · rw [List.getElem?_eq_none (by rw [bs_len]; omega)] at hj; cases hj
    exact wpList_append_own w hgd s x 35 ho base 5 i0 (.int .u8 0) 1 1 Tryz.underlying35 hi0 hz0 hz1 hz2 rfl (by omega) (.slice A n c) n (bs xs) hs hown ad m d (bs ys) hx (by rw [bs_len]; omega) hcell (bs_one ys)
      (by unfold maxLen; omega) (by omega) hbase (fun v' w' h1 h2 _ => done v' w' h1 h2)
theorem own_nil' (w : World) (B : Nat) : w.ownsRow B 5 1 (.slice none 0 0) 0 (bs []) := World.ownsRow_nil w B _ 1
theorem rs_of_own {w w' : World} {A : Option Addr} {c n : Nat} {xs : List Nat} (h : w'.ownsRow w.heap.size 5 1 (.slice A n c) n (bs xs)) (hn : n = xs.length) (hb : BY xs) : RS w' A c xs ∧ Fresh w A := by
  subst hn
  have := OwnB.rs (B := w.heap.size) h hb
  exact ⟨this.1, this.2.1⟩
/-- The cells of n bytes 0. -/
def zc (n : Nat) : Array Value := (bs (List.replicate n 0)).toArray
theorem run_zeros (n : Nat) (hn : n ≤ 65536) : ∀ w : World, (Instr.makeSlice 35 (.int .i64 (n : Int)) (.int .i64 (n : Int))).run Tryz.prog w = .ok (.slice (some ⟨w.heap.size, 0, none⟩) n n) (w.alloc (.cells (zc n) 5)) := fun w => by
  obtain ⟨i0, hi0, hz0, hz1, hz2⟩ := info_parts byte_info
  have h := run_make (P := Tryz.prog) w 35 5 i0 (.int .u8 0) Tryz.underlying35 hi0 hz0 .i64 .i64 (n : Int) (n : Int) (by omega) (by omega) (by rw [hz2]; omega) (by omega)
  rw [hz1, Int.toNat_natCast, Nat.mul_one] at h
  rw [h]
  have e := toList_madeCells_one (Value.int .u8 0) n
  have e2 : zc n = madeCells #[Value.int .u8 0] n := by
    unfold zc bs
    rw [List.map_replicate]
    apply Array.ext'
    rw [e]
    rfl
  rw [e2]
  rfl
theorem zc_row (w : World) (n : Nat) : (w.alloc (.cells (zc n) 5)).heap[w.heap.size]? = some (.cells (bs (List.replicate n 0)).toArray 5 (0, 0)) := heap_alloc_new w _
theorem own_row {w : World} {B g : Nat} {xs : List Nat} (h : w.heap[g]? = some (.cells (bs xs).toArray 5 (0, 0))) (hB : B ≤ g) (hm : xs.length ≤ maxLen) : OwnB w B (some ⟨g, 0, none⟩) xs.length xs :=
  ⟨by simp [bs_len], .inr ⟨g, xs.length, _, rfl, hB, h, Nat.le_refl _, hm, by simp [bs_len], by simp [← bs_len xs]⟩⟩
theorem rs_of_row {w : World} {g : Nat} {xs : List Nat} (h : w.heap[g]? = some (.cells (bs xs).toArray 5 (0, 0))) (hm : xs.length ≤ maxLen) (hb : BY xs) : RS w (some ⟨g, 0, none⟩) xs.length xs :=
  (OwnB.rs (own_row h (Nat.zero_le _) hm) hb).1
/-- A slice of bytes that came in: nil, or a row of cap cells that hold the numbers of zs. -/
def Came (w : World) (a : Option Addr) (len cap : Nat) (zs : List Int) : Prop :=
  (a = none ∧ len = 0 ∧ cap = 0 ∧ zs = []) ∨
  ∃ x, a = some x ∧ len ≤ cap ∧ cap ≤ maxLen ∧ zs.length = cap ∧ (∀ i, i < zs.length → w.cell? (x.add i) = some (.int .u8 (zs.getD i 0))) ∧ ∀ n ∈ zs, (Lit.int .u8 n).wf = true
theorem byte_of_wf {a : Int} (h : (Lit.int .u8 a).wf = true) : 0 ≤ a ∧ a < 256 := by
  simp only [Lit.wf, IntKind.min, IntKind.max, IntKind.signed, IntKind.bits, Bool.and_eq_true] at h
  have h1 := h.1
  have h2 := h.2
  simp at h1 h2
  omega
theorem Came.rs {w : World} {a : Option Addr} {len cap : Nat} {zs : List Int} (h : Came w a len cap zs) : ∃ xs : List Nat, xs.length = len ∧ RS w a cap xs ∧ ∀ ad, a = some ad → 0 < cap → ad.block < w.heap.size := by
  rcases h with ⟨rfl, rfl, rfl, rfl⟩ | ⟨x, rfl, hl, hm, hz, hc, hw⟩
  · exact ⟨[], rfl, RS.nil w, fun _ e => (by cases e)⟩
  · refine ⟨(zs.take len).map Int.toNat, by simp; omega, ⟨by simp; omega, hm, ?_, ?_⟩, ?_⟩
    · intro y hy
      simp only [List.mem_map] at hy
      obtain ⟨n, hn, rfl⟩ := hy
      have := byte_of_wf (hw n (List.mem_of_mem_take hn))
      omega
    · intro j hj
      simp only [List.length_map, List.length_take] at hj
      refine ⟨x, rfl, ?_⟩
      rw [hc j (by omega)]
      have hj2 : j < zs.length := by omega
      have := byte_of_wf (hw zs[j] (List.getElem_mem hj2))
      unfold bc
      congr 2
      simp only [List.getD_eq_getElem?_getD, List.getElem?_map, List.getElem?_take, if_pos (show j < len by omega), List.getElem?_eq_getElem hj2, Option.map_some, Option.getD_some]
      omega
    · intro ad e h0
      cases e
      have := lt_of_cell (hc 0 (by omega))
      rwa [add_block] at this
theorem own_lit (w : World) : (w.alloc (.cells #[] 5)).ownsRow w.heap.size 5 1 (.slice (some ⟨w.heap.size, 0, none⟩) 0 0) 0 (bs []) :=
  World.ownsRow_made w #[] 0 (Nat.le_refl _) (by simp [maxLen]) rfl
end Go.Proofs.YtjdjkdgdbdenpaaGreatDoor.C4
/- The two tables of instructions: plain lists. -/
namespace Go.Proofs.YtjdjkdgdbdenpaaGreatDoor
open Go

/-- The functions by their numbers: the bytes of the mnemonic, how many words are taken, how many are left. -/
def fnT : List (List UInt8 × Int × Int) := [
  ([106], 0, 0),
  ([108, 100, 108, 112], 0, 1),
  ([], 0, 0),
  ([108, 100, 110, 108], 1, 1),
  ([108, 100, 99], 0, 1),
  ([108, 100, 110, 108, 112], 1, 1),
  ([], 0, 0),
  ([108, 100, 108], 0, 1),
  ([97, 100, 99], 1, 1),
  ([99, 97, 108, 108], 3, 1),
  ([99, 106], 1, 0),
  ([97, 106, 119], 0, 0),
  ([101, 113, 99], 1, 1),
  ([115, 116, 108], 1, 0),
  ([115, 116, 110, 108], 2, 0)]
/-- The operations by their codes. -/
def opT : List (List UInt8 × Int × Int) := [
  ([114, 101, 118], 2, 2),
  ([108, 98], 1, 1),
  ([98, 115, 117, 98], 2, 1),
  ([101, 110, 100, 112], 1, 0),
  ([100, 105, 102, 102], 2, 1),
  ([97, 100, 100], 2, 1),
  ([103, 99, 97, 108, 108], 1, 1),
  ([105, 110], 3, 0),
  ([112, 114, 111, 100], 2, 1),
  ([103, 116], 2, 1),
  ([119, 115, 117, 98], 2, 1),
  ([111, 117, 116], 3, 0),
  ([115, 117, 98], 2, 1),
  ([115, 116, 97, 114, 116, 112], 2, 0),
  ([111, 117, 116, 98, 121, 116, 101], 2, 0),
  ([111, 117, 116, 119, 111, 114, 100], 2, 0),
  ([115, 101, 116, 101, 114, 114], 0, 0),
  ([], 0, 0),
  ([114, 101, 115, 101, 116, 99, 104], 1, 1),
  ([99, 115, 117, 98, 48], 2, 1),
  ([], 0, 0),
  ([115, 116, 111, 112, 112], 0, 0),
  ([108, 97, 100, 100], 3, 1),
  ([], 0, 0),
  ([], 0, 0),
  ([110, 111, 114, 109], 2, 3),
  ([108, 100, 105, 118], 3, 2),
  ([108, 100, 112, 105], 1, 1),
  ([], 0, 0),
  ([120, 100, 98, 108, 101], 1, 2),
  ([108, 100, 112, 114, 105], 0, 1),
  ([114, 101, 109], 2, 1),
  ([114, 101, 116], 0, 0),
  ([108, 101, 110, 100], 2, 0),
  ([108, 100, 116, 105, 109, 101, 114], 0, 1),
  ([], 0, 0),
  ([], 0, 0),
  ([], 0, 0),
  ([], 0, 0),
  ([], 0, 0),
  ([], 0, 0),
  ([116, 101, 115, 116, 101, 114, 114], 0, 1),
  ([], 0, 0),
  ([116, 105, 110], 1, 0),
  ([100, 105, 118], 2, 1),
  ([], 0, 0),
  ([100, 105, 115, 116], 3, 1),
  ([100, 105, 115, 99], 3, 1),
  ([100, 105, 115, 115], 2, 1),
  ([108, 109, 117, 108], 3, 2),
  ([110, 111, 116], 1, 1),
  ([120, 111, 114], 2, 1),
  ([98, 99, 110, 116], 1, 1),
  ([108, 115, 104, 114], 3, 2),
  ([108, 115, 104, 108], 3, 2),
  ([108, 115, 117, 109], 3, 2),
  ([108, 115, 117, 98], 3, 1),
  ([114, 117, 110, 112], 1, 0),
  ([120, 119, 111, 114, 100], 2, 1),
  ([115, 98], 2, 0),
  ([103, 97, 106, 119], 1, 1),
  ([], 0, 0),
  ([], 0, 0),
  ([119, 99, 110, 116], 1, 2),
  ([115, 104, 114], 2, 1),
  ([115, 104, 108], 2, 1),
  ([109, 105, 110, 116], 0, 1),
  ([97, 108, 116], 0, 0),
  ([97, 108, 116, 119, 116], 0, 0),
  ([97, 108, 116, 101, 110, 100], 0, 0),
  ([97, 110, 100], 2, 1),
  ([101, 110, 98, 116], 2, 1),
  ([101, 110, 98, 99], 2, 1),
  ([101, 110, 98, 115], 1, 1),
  ([109, 111, 118, 101], 3, 0),
  ([111, 114], 2, 1),
  ([99, 115, 110, 103, 108], 2, 1),
  ([99, 99, 110, 116, 49], 2, 1),
  ([116, 97, 108, 116], 0, 0),
  ([108, 100, 105, 102, 102], 3, 2),
  ([], 0, 0),
  ([116, 97, 108, 116, 119, 116], 0, 0),
  ([115, 117, 109], 2, 1),
  ([109, 117, 108], 2, 1),
  ([115, 116, 116, 105, 109, 101, 114], 1, 0),
  ([115, 116, 111, 112, 101, 114, 114], 0, 0),
  ([99, 119, 111, 114, 100], 2, 1),
  ([99, 108, 114, 104, 97, 108, 116, 101, 114, 114], 0, 0),
  ([115, 101, 116, 104, 97, 108, 116, 101, 114, 114], 0, 0),
  ([116, 101, 115, 116, 104, 97, 108, 116, 101, 114, 114], 0, 1)]
/-- The row of an instruction. -/
def rowL (f a : Int) : List UInt8 × Int × Int :=
  if f < 15 then fnT.getD f.toNat ([], 0, 0) else if f = 15 ∧ 0 ≤ a ∧ a < 90 then opT.getD a.toNat ([], 0, 0) else ([], 0, 0)
def nm (f a : Int) : List UInt8 := (rowL f a).1
def tk (f a : Int) : Int := (rowL f a).2.1
def lv (f a : Int) : Int := (rowL f a).2.2
/-- The instruction exists. -/
def ex (f a : Int) : Bool := !(nm f a).isEmpty
/-- The instructions with a mnemonic of their own, in the order of the tables. -/
def insts : List (Int × Int) := (((List.range 15).map fun (i : Nat) => ((i : Int), (0 : Int))) ++ ((List.range 90).map fun (i : Nat) => ((15 : Int), (i : Int)))).filter fun p => ex p.1 p.2
def findI (l : List UInt8) : Option (Int × Int) := insts.find? fun p => nm p.1 p.2 == l
def ndF (l : List UInt8) : Int := ((findI l).getD (0, 0)).1
def ndA (l : List UInt8) : Int := ((findI l).getD (0, 0)).2
def ndO (l : List UInt8) : Bool := (findI l).isSome

/-- What the tables have been asked by the kernel. -/
theorem inst_facts : (insts.all fun p => findI (nm p.1 p.2) == some p && ex p.1 p.2 && (decide (0 ≤ p.1) && decide (p.1 ≤ 15) && decide (0 ≤ p.2) && decide (p.2 < 90) && (p.1 == 15 || p.2 == 0)) && (nm p.1 p.2).all (fun c => decide (c ≠ 32) && decide (c < 128)) && Lib.toLowerA (nm p.1 p.2) == nm p.1 p.2 && findI (Lib.toUpperA (nm p.1 p.2)) == none && decide ((nm p.1 p.2).length ≤ 11)
    && (decide (0 ≤ tk p.1 p.2) && decide (tk p.1 p.2 ≤ 3) && decide (0 ≤ lv p.1 p.2) && decide (lv p.1 p.2 ≤ 3) && decide (lv p.1 p.2 ≤ tk p.1 p.2 + 1))) = true := by decide +kernel
theorem fn_all : ((List.range 15).all fun (i : Nat) => (fnT.getD i ([], 0, 0)).1.isEmpty || insts.contains ((i : Int), 0)) = true := by decide +kernel
theorem op_all : ((List.range 90).all fun (i : Nat) => (opT.getD i ([], 0, 0)).1.isEmpty || insts.contains (15, (i : Int))) = true := by decide +kernel
theorem rowL_fn {f : Int} (h : f < 15) (a b : Int) : rowL f a = rowL f b := by unfold rowL; rw [if_pos h, if_pos h]
theorem rowL_no {f : Int} (h : 15 < f) (a : Int) : rowL f a = ([], 0, 0) := by unfold rowL; rw [if_neg (by omega), if_neg (by omega)]
theorem rowL_out {a : Int} (h : a < 0 ∨ 90 ≤ a) : rowL 15 a = ([], 0, 0) := by unfold rowL; rw [if_neg (by omega), if_neg (by omega)]
theorem nm_fn {f : Int} (h : f < 15) (a : Int) : nm f a = nm f 0 := by unfold nm; rw [rowL_fn h a 0]
/-- An instruction that exists is one of the list, but for a function's operand. -/
theorem ex_mem {f a : Int} (h0 : 0 ≤ f) (h : ex f a = true) : (f, if f = 15 then a else 0) ∈ insts := by
  by_cases hf : f < 15
  · rw [if_neg (by omega)]
    have hr : nm f a = (fnT.getD f.toNat ([], 0, 0)).1 := by unfold nm rowL; rw [if_pos hf]
    have := List.all_eq_true.1 fn_all f.toNat (by rw [List.mem_range]; omega)
    rw [← hr] at this
    have he : (nm f a).isEmpty = false := by unfold ex at h; simpa using h
    rw [he, Bool.false_or, show ((f.toNat : Nat) : Int) = f by omega] at this
    simpa using this
  · by_cases h15 : f = 15 ∧ 0 ≤ a ∧ a < 90
    · obtain ⟨rfl, a0, a1⟩ := h15
      rw [if_pos rfl]
      have hr : nm 15 a = (opT.getD a.toNat ([], 0, 0)).1 := by unfold nm rowL; rw [if_neg (by decide), if_pos ⟨rfl, a0, a1⟩]
      have := List.all_eq_true.1 op_all a.toNat (by rw [List.mem_range]; omega)
      rw [← hr] at this
      have he : (nm 15 a).isEmpty = false := by unfold ex at h; simpa using h
      rw [he, Bool.false_or, show ((a.toNat : Nat) : Int) = a by omega] at this
      simpa using this
    · have : ex f a = false := by unfold ex nm rowL; rw [if_neg hf, if_neg h15]; rfl
      rw [this] at h
      cases h
theorem ex_nm {f a b : Int} (h : f < 15 ∨ a = b) : ex f a = ex f b ∧ nm f a = nm f b ∧ tk f a = tk f b ∧ lv f a = lv f b := by
  have : rowL f a = rowL f b := by
    rcases h with h | h
    · exact rowL_fn h a b
    · rw [h]
  unfold ex nm tk lv
  rw [this]
  exact ⟨rfl, rfl, rfl, rfl⟩
theorem ex_le {f a : Int} (h : ex f a = true) : f ≤ 15 ∧ (f = 15 → 0 ≤ a ∧ a < 90) := by
  refine ⟨?_, ?_⟩
  · by_cases h1 : 15 < f
    · unfold ex nm at h; rw [rowL_no h1] at h; cases h
    · omega
  · rintro rfl
    by_cases h1 : a < 0 ∨ 90 ≤ a
    · unfold ex nm at h; rw [rowL_out h1] at h; cases h
    · omega
/-- What is known of an instruction that exists. -/
theorem ex_facts {f a : Int} (h0 : 0 ≤ f) (h : ex f a = true) :
    findI (nm f a) = some (f, if f = 15 then a else 0) ∧ (∀ c ∈ nm f a, c ≠ 32 ∧ c < 128) ∧ Lib.toLowerA (nm f a) = nm f a ∧ findI (Lib.toUpperA (nm f a)) = none ∧ (nm f a).length ≤ 11 ∧ 0 ≤ tk f a ∧ tk f a ≤ 3 ∧ 0 ≤ lv f a ∧ lv f a ≤ 3 ∧ lv f a ≤ tk f a + 1 := by
  have hm := ex_mem h0 h
  have hl := ex_le h
  have hA := List.all_eq_true.1 inst_facts _ hm
  have hn : nm f (if f = 15 then a else 0) = nm f a ∧ tk f (if f = 15 then a else 0) = tk f a ∧ lv f (if f = 15 then a else 0) = lv f a := by
    by_cases h15 : f = 15
    · rw [if_pos h15]; exact ⟨rfl, rfl, rfl⟩
    · rw [if_neg h15]; obtain ⟨_, h1, h2, h3⟩ := ex_nm (a := 0) (b := a) (.inl (show f < 15 by omega)); exact ⟨h1, h2, h3⟩
  simp only [hn.1, hn.2.1, hn.2.2, Bool.and_eq_true, decide_eq_true_eq, beq_iff_eq, List.all_eq_true] at hA
  obtain ⟨⟨⟨⟨⟨⟨⟨h1, _⟩, _⟩, h2⟩, h3⟩, h4⟩, h5⟩, ⟨⟨⟨h6, h7⟩, h8⟩, h9⟩, h10⟩ := hA
  exact ⟨h1, h2, h3, h4, h5, h6, h7, h8, h9, h10⟩
theorem find_some {l : List UInt8} {p : Int × Int} (h : findI l = some p) : ex p.1 p.2 = true ∧ nm p.1 p.2 = l ∧ 0 ≤ p.1 ∧ p.1 ≤ 15 ∧ 0 ≤ p.2 ∧ p.2 < 90 ∧ (p.1 = 15 ∨ p.2 = 0) := by
  have hm : p ∈ insts := List.mem_of_find?_eq_some h
  have hn := List.find?_some h
  have hA := List.all_eq_true.1 inst_facts _ hm
  simp only [Bool.and_eq_true, Bool.or_eq_true, decide_eq_true_eq, beq_iff_eq, List.all_eq_true] at hA hn
  obtain ⟨⟨⟨⟨⟨⟨⟨_, h1⟩, ⟨⟨⟨h2, h3⟩, h4⟩, h5⟩, h6⟩, _⟩, _⟩, _⟩, _⟩, _⟩ := hA
  exact ⟨h1, hn, h2, h3, h4, h5, h6⟩
theorem nd_bd (l : List UInt8) : 0 ≤ ndF l ∧ ndF l ≤ 15 ∧ 0 ≤ ndA l ∧ ndA l < 90 ∧ (ndF l = 15 ∨ ndA l = 0) := by
  unfold ndF ndA
  cases h : findI l with
  | none => exact ⟨by decide, by decide, by decide, by decide, .inr rfl⟩
  | some p => obtain ⟨_, _, h1, h2, h3, h4, h5⟩ := find_some h; exact ⟨h1, h2, h3, h4, h5⟩

/-! ### Texts -/
def txL (f a : Int) : List UInt8 := if ex f a = true then (if f = 15 then nm f a else nm f a ++ 32 :: textL a false) else []
def txE (f a : Int) : Int := if ex f a = true then 0 else 2
/-- The part before the first space, and what comes behind it, if there is one. -/
def hd (l : List UInt8) : List UInt8 := l.takeWhile (· != 32)
def tl (l : List UInt8) : List UInt8 := (l.dropWhile (· != 32)).drop 1
def hasSp (l : List UInt8) : Bool := !(l.dropWhile (· != 32)).isEmpty
/-- What a text is read as. -/
def rdI (l : List UInt8) : Int × Int × Int := match findI (hd l) with
  | none => (0, 0, 50)
  | some p => if p.1 = 15 then (if hasSp l = true then (0, 0, 5) else (p.1, p.2, 0)) else if hasSp l = true then (if (readC (tl l)).2 = 0 then (p.1, (readC (tl l)).1, 0) else (0, 0, 5)) else (0, 0, 5)

theorem hd_cons {n x : List UInt8} (h : ∀ c ∈ n, c ≠ 32) : hd (n ++ 32 :: x) = n ∧ tl (n ++ 32 :: x) = x ∧ hasSp (n ++ 32 :: x) = true := by
  have h1 : (n ++ 32 :: x).takeWhile (· != 32) = n := by
    rw [List.takeWhile_append_of_pos (by intro c hc; simpa using h c hc)]
    simp
  have h2 : (n ++ 32 :: x).dropWhile (· != 32) = 32 :: x := by
    rw [List.dropWhile_append_of_pos (by intro c hc; simpa using h c hc)]
    simp
  unfold hd tl hasSp
  rw [h1, h2]
  exact ⟨rfl, rfl, rfl⟩
theorem hd_none {n : List UInt8} (h : ∀ c ∈ n, c ≠ 32) : hd n = n ∧ hasSp n = false := by
  have h1 : n.takeWhile (· != 32) = n := by
    have := List.takeWhile_append_of_pos (p := (· != (32 : UInt8))) (l₁ := n) (l₂ := []) (by intro c hc; simpa using h c hc)
    simpa using this
  have h2 : n.dropWhile (· != 32) = [] := by
    have := List.dropWhile_append_of_pos (p := (· != (32 : UInt8))) (l₁ := n) (l₂ := []) (by intro c hc; simpa using h c hc)
    simpa using this
  unfold hd hasSp
  rw [h1, h2]
  exact ⟨rfl, rfl⟩
theorem hasSp_cases (l : List UInt8) : (hasSp l = true ∧ l = hd l ++ 32 :: tl l ∧ ∀ c ∈ hd l, c ≠ 32) ∨ (hasSp l = false ∧ hd l = l ∧ tl l = [] ∧ ∀ c ∈ l, c ≠ 32) := by
  have hall : ∀ c ∈ hd l, c ≠ 32 := by
    intro c hc
    have := List.all_eq_true.1 (List.all_takeWhile (p := (· != (32 : UInt8))) (l := l)) c hc
    simpa using this
  have hsplit : l.takeWhile (· != 32) ++ l.dropWhile (· != 32) = l := List.takeWhile_append_dropWhile
  cases hd' : l.dropWhile (· != 32) with
  | nil =>
    right
    have e : hd l = l := by unfold hd; rw [hd', List.append_nil] at hsplit; exact hsplit
    refine ⟨by unfold hasSp; rw [hd']; rfl, e, by unfold tl; rw [hd']; rfl, fun c hc => hall c (by rw [e]; exact hc)⟩
  | cons x xs =>
    left
    have hx : x = 32 := by
      have := List.head?_dropWhile_not (· != (32 : UInt8)) l
      rw [hd'] at this
      simpa using this
    subst hx
    refine ⟨by unfold hasSp; rw [hd']; rfl, ?_, hall⟩
    unfold hd tl
    rw [hd', List.drop_one, List.tail_cons]
    rw [hd'] at hsplit
    exact hsplit.symm
end Go.Proofs.YtjdjkdgdbdenpaaGreatDoor
/- Contracts of the integer functions of package word and of its reference: what each returns, for all words. -/
namespace Go.Proofs.YtjdjkdgdbdenpaaGreatDoor
open Go Go.RowKit

/-- The number does not fit into a word. -/
def overB (x : Int) : Bool := !(decide (-2147483648 ≤ x) && decide (x < 2147483648))

theorem ret_ib {k : IntKind} {a b : Int} {p q : Bool} (h : a = b) (h' : p = q) : Ending.returned (.tuple #[.int k a, .bool p]) = .returned (.tuple #[.int k b, .bool q]) := by rw [h, h']
theorem ret_i {k : IntKind} {a b : Int} (h : a = b) : Ending.returned (.int k a) = .returned (.int k b) := by rw [h]
theorem ret_b {p q : Bool} (h : p = q) : Ending.returned (.bool p) = .returned (.bool q) := by rw [h]

theorem red64_any (x : Int) (w : World) : Calls Tryz.prog 101 #[.int .i64 x] w fun e w' => e = .returned (.int .i32 (wrap32 x)) ∧ w = w' := by
  go_enter Tryz.func101, Tryz.ntmps101
  go_wp2
  go_ret
  exact ⟨rfl, rfl⟩
theorem redu_any (x : Int) (w : World) : Calls Tryz.prog 95 #[.int .u32 x] w fun e w' => e = .returned (.int .i32 (wrap32 x)) ∧ w = w' := by
  go_enter Tryz.func95, Tryz.ntmps95
  go_wp2
  go_ret
  exact ⟨rfl, rfl⟩
theorem wrap32_over (x : Int) : (wrap64 (wrap32 x) != x) = overB x := by
  unfold overB wrap64 wrap32
  by_cases h : -2147483648 ≤ x <;> by_cases h' : x < 2147483648 <;> simp [h, h'] <;> omega
/-- A word. -/
def isW (a : Int) : Prop := -2147483648 ≤ a ∧ a ≤ 2147483647
theorem isW_wrap32 (x : Int) : isW (wrap32 x) := by unfold isW wrap32; omega
theorem isW_of_wf {a : Int} (h : (Lit.int .i32 a).wf = true) : isW a := by
  simp only [Lit.wf, IntKind.min, IntKind.max, IntKind.signed, IntKind.bits, Bool.and_eq_true, decide_eq_true_eq, if_true] at h
  exact ⟨by omega, by omega⟩

theorem mul_bd {a b : Int} (ha : isW a) (hb : isW b) : -4611686018427387904 ≤ a * b ∧ a * b ≤ 4611686018427387904 := by
  unfold isW at ha hb
  have h1 : a.natAbs ≤ 2147483648 := by omega
  have h2 : b.natAbs ≤ 2147483648 := by omega
  have h3 : (a * b).natAbs ≤ 2147483648 * 2147483648 := by rw [Int.natAbs_mul]; exact Nat.mul_le_mul h1 h2
  omega
/-- After: the difference is above 0. -/
def aftB (a b : Int) : Bool := decide (0 < wrap32 (a - b))
/-- The quotient, the remainder; whether there is none. -/
def divB (a b : Int) : Bool := (b == 0) || ((a == -2147483648) && (b == -1))
def divR (a b : Int) : Int := if divB a b = true then 0 else a.tdiv b
theorem tdiv_bd {a b : Int} (ha : isW a) (hb : ¬ b = 0) (h : ¬ (a = -2147483648 ∧ b = -1)) : isW (a.tdiv b) := by
  unfold isW at *
  obtain ⟨a0, a1⟩ := ha
  have hn : (a.tdiv b).natAbs = a.natAbs / b.natAbs := Int.natAbs_tdiv ..
  by_cases hb1 : b.natAbs = 1
  · rw [hb1, Nat.div_one] at hn
    rcases (show b = 1 ∨ b = -1 by omega) with rfl | rfl
    · rw [Int.tdiv_one]; exact ⟨a0, a1⟩
    · have : a ≠ -2147483648 := fun e => h ⟨e, rfl⟩
      omega
  · have h2 : a.natAbs / b.natAbs ≤ a.natAbs / 2 := Nat.div_le_div_left (by omega) (by omega)
    omega
theorem wrap32_in {x : Int} (h : isW x) : wrap32 x = x := by unfold isW at h; unfold wrap32; omega
def remR (a b : Int) : Int := if b == 0 then 0 else a.tmod b
theorem tmod_bd {a b : Int} (ha : isW a) : isW (a.tmod b) := by
  unfold isW at *
  have hn : (a.tmod b).natAbs = a.natAbs % b.natAbs := Int.natAbs_tmod ..
  have hm : a.natAbs % b.natAbs ≤ a.natAbs := Nat.mod_le ..
  obtain ⟨a0, a1⟩ := ha
  rcases Int.le_total 0 a with h | h
  · have := Int.tmod_nonneg b h
    omega
  · have := Int.tmod_nonneg (a := -a) b (by omega)
    rw [Int.neg_tmod] at this
    omega
/-- The number of places that counts. -/
def plc (n : Int) : Nat := min (n % 4294967296).toNat 32
def shlR (a n : Int) : Int := wrap32 (a * 2 ^ plc n)
def shrR (a n : Int) : Int := wrap32 ((a % 4294967296) / 2 ^ plc n)
theorem shl_form (a x : Int) : wrap32 (IntKind.u32.wrap (a % 4294967296 * x)) = wrap32 (a * x) := by
  rw [IntKind.wrap_u32, show a = a % 4294967296 + 4294967296 * (a / 4294967296) by omega]
  generalize a / 4294967296 = q
  generalize a % 4294967296 = r
  have h1 : (r + 4294967296 * q) % 4294967296 = r % 4294967296 := by omega
  rw [h1]
  have h2 : (r + 4294967296 * q) * x = r * x + 4294967296 * (q * x) := by rw [Int.add_mul, Int.mul_assoc]
  rw [h2]
  have h3 : (r % 4294967296 * x) % 4294967296 = (r * x) % 4294967296 := by rw [Int.mul_emod, Int.emod_emod_of_dvd _ (Int.dvd_refl _), ← Int.mul_emod]
  rw [h3]
  unfold wrap32
  omega
theorem Shr_any (a b : Int) (w : World) : Calls Tryz.prog 87 #[.int .i32 a, .int .i32 b] w fun e w' => e = .returned (.int .i32 (shrR a b)) ∧ w = w' := by
  have hp : 0 ≤ b % 4294967296 := by omega
  go_enter Tryz.func87, Tryz.ntmps87
  go_wp2_with (go_at_call 95; refine (redu_any _ _).mono ?_; rintro e w' ⟨rfl, rfl⟩)
  go_ret
  exact ⟨ret_i rfl, rfl⟩
def xwR (a b : Int) : Int := if a % 4294967296 < b % 4294967296 then a else wrap32 (a - 2 * b)
def cwB (a b : Int) : Bool := decide (b ≤ a) || decide (a < wrap32 (0 - b))
end Go.Proofs.YtjdjkdgdbdenpaaGreatDoor
