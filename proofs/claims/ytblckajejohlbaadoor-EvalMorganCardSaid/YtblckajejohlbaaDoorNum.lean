/- Plain arithmetic of machine words and their texts: what the decimal and hexadecimal texts of a word are, and that a text determines its word. -/
import Derived.Lib.ItoaNum
set_option linter.unusedVariables false
set_option linter.unusedSimpArgs false
namespace Go.Proofs.YtblckajejohlbaaDoor
open Go

/-- The byte of a digit. -/
def hexDg (d : Nat) : UInt8 := if d < 10 then UInt8.ofNat (48 + d) else UInt8.ofNat (55 + d)
/-- n hexadecimal digits of t. -/
def hexDigs : Nat → Nat → List UInt8
  | 0, _ => []
  | n + 1, t => hexDigs n (t / 16) ++ [hexDg (t % 16)]
/-- A word taken as unsigned. -/
def uns (v : Int) : Nat := (v % 4294967296).toNat
/-- The text of a word. -/
def textL (v : Int) (hex : Bool) : List UInt8 := if hex then 35 :: hexDigs 8 (uns v) else Lib.itoa v

/-- The value of a byte as a digit; none: it is no digit to that base. -/
def dval (base : Nat) (c : UInt8) : Option Nat :=
  if 48 ≤ c.toNat ∧ c.toNat ≤ 57 then some (c.toNat - 48)
  else if base = 16 ∧ 65 ≤ c.toNat ∧ c.toNat ≤ 70 then some (c.toNat - 55) else none

theorem dval_lt {base : Nat} {c : UInt8} {d : Nat} (hb : base = 10 ∨ base = 16) (h : dval base c = some d) : d < base := by
  unfold dval at h
  split at h
  · injection h with h; omega
  · split at h
    · injection h with h; omega
    · cases h

theorem dval_hexDg (d : Nat) (h : d < 16) : dval 16 (hexDg d) = some d := by
  have : ∀ d : Fin 16, dval 16 (hexDg d.val) = some d.val := by decide
  exact this ⟨d, h⟩
theorem dval_dec (d : Nat) (h : d < 10) : dval 10 (UInt8.ofNat (48 + d)) = some d := by
  have : ∀ d : Fin 10, dval 10 (UInt8.ofNat (48 + d.val)) = some d.val := by decide
  exact this ⟨d, h⟩

/-- The number that digits spell, each non-digit passed by. -/
def valL (base : Nat) (l : List UInt8) (n : Nat) : Nat := l.foldl (fun n c => match dval base c with | some d => n * base + d | none => n) n
/-- The number that digits spell, given up at a non-digit, and where the number has outgrown the words. -/
def natL (base : Nat) : List UInt8 → Nat → Option Nat
  | [], n => some n
  | c :: cs, n => match dval base c with
    | some d => if 4294967295 < n then none else natL base cs (n * base + d)
    | none => none

theorem valL_append (base : Nat) (a b : List UInt8) (n : Nat) : valL base (a ++ b) n = valL base b (valL base a n) := by
  unfold valL; rw [List.foldl_append]
theorem natL_valL {base : Nat} : ∀ (l : List UInt8) (n : Nat) {m : Nat}, natL base l n = some m → valL base l n = m
  | [], n, m, h => by simpa [natL, valL] using h
  | c :: cs, n, m, h => by
    unfold natL at h
    cases hd : dval base c with
    | none => rw [hd] at h; cases h
    | some d =>
      rw [hd] at h
      by_cases hn : 4294967295 < n
      · simp [hn] at h
      · simp only [if_neg hn] at h
        have := natL_valL cs (n * base + d) h
        unfold valL at this ⊢
        simp only [List.foldl_cons, hd]
        exact this
theorem natL_cons (base : Nat) (c : UInt8) (cs : List UInt8) (n : Nat) : natL base (c :: cs) n = (match dval base c with
    | some d => if 4294967295 < n then none else natL base cs (n * base + d)
    | none => none) := rfl
theorem natL_append {base : Nat} : ∀ (a b : List UInt8) (n : Nat), natL base (a ++ b) n = (natL base a n).bind fun m => natL base b m
  | [], b, n => rfl
  | c :: cs, b, n => by
    rw [List.cons_append, natL_cons, natL_cons]
    cases dval base c with
    | none => rfl
    | some d =>
      by_cases hn : 4294967295 < n
      · simp [hn]
      · simp only [if_neg hn]; exact natL_append cs b _

theorem natL_hex : ∀ (n t : Nat), n ≤ 8 → natL 16 (hexDigs n t) 0 = some (t % 16 ^ n)
  | 0, t, _ => by simp [hexDigs, natL, Nat.mod_one]
  | n + 1, t, hn => by
    have ih := natL_hex n (t / 16) (by omega)
    unfold hexDigs
    rw [natL_append, ih]
    have hd := dval_hexDg (t % 16) (Nat.mod_lt _ (by decide))
    have hp : 16 ^ n ≤ 16 ^ 7 := Nat.pow_le_pow_right (by decide) (by omega)
    have hlt : t / 16 % 16 ^ n < 16 ^ n := Nat.mod_lt _ (Nat.pow_pos (by decide))
    have h7 : (16 : Nat) ^ 7 = 268435456 := by decide
    simp only [Option.bind_some, natL, hd]
    rw [if_neg (by omega)]
    congr 1
    rw [Nat.pow_succ, Nat.mul_comm (16 ^ n) 16, Nat.mod_mul]
    omega
theorem natL_dec (t : Nat) (ht : t ≤ 42949672959) : natL 10 (Lib.decDigits t) 0 = some t := by
  induction t using Nat.strongRecOn with
  | _ t ih =>
    rw [Lib.decDigits]
    by_cases h : t < 10
    · rw [dif_pos h]
      rw [natL_cons, dval_dec t h]
      simp [natL]
    · rw [dif_neg h, natL_append, ih (t / 10) (by omega) (by omega)]
      simp only [Option.bind_some, natL, dval_dec (t % 10) (Nat.mod_lt _ (by decide))]
      rw [if_neg (by omega)]
      congr 1
      omega

theorem uns_lt (v : Int) : uns v < 4294967296 := by unfold uns; omega
theorem natL_text_hex (v : Int) : natL 16 (hexDigs 8 (uns v)) 0 = some (uns v) := by
  rw [natL_hex 8 _ (Nat.le_refl _), Nat.mod_eq_of_lt (uns_lt v)]
theorem hexDigs_length : ∀ n t, (hexDigs n t).length = n
  | 0, _ => rfl
  | n + 1, t => by unfold hexDigs; rw [List.length_append, hexDigs_length n]; rfl

/-- decimal digits are digits: the first is not a sign. -/
theorem decDigits_head (t : Nat) : ∃ c cs, Lib.decDigits t = c :: cs ∧ 48 ≤ c.toNat ∧ c.toNat ≤ 57 := by
  induction t using Nat.strongRecOn with
  | _ t ih =>
    rw [Lib.decDigits]
    by_cases h : t < 10
    · rw [dif_pos h]
      exact ⟨_, [], rfl, by simp; omega, by simp; omega⟩
    · rw [dif_neg h]
      obtain ⟨c, cs, e, h1, h2⟩ := ih (t / 10) (by omega)
      exact ⟨c, cs ++ [UInt8.ofNat (48 + t % 10)], by rw [e]; rfl, h1, h2⟩
/-- n digits of t to a base. -/
def lowDigs (base : Nat) : Nat → Nat → List UInt8
  | 0, _ => []
  | n + 1, t => lowDigs base n (t / base) ++ [hexDg (t % base)]
theorem lowDigs_cons (base : Nat) : ∀ (n t : Nat), lowDigs base (n + 1) t = hexDg (t / base ^ n % base) :: lowDigs base n t
  | 0, t => by simp [lowDigs]
  | n + 1, t => by
    have ih := lowDigs_cons base n (t / base)
    rw [lowDigs, ih, Nat.div_div_eq_div_mul, Nat.pow_succ, Nat.mul_comm base]
    rfl
theorem lowDigs_16 : ∀ (n t : Nat), lowDigs 16 n t = hexDigs n t
  | 0, _ => rfl
  | n + 1, t => by rw [lowDigs, hexDigs, lowDigs_16 n]
theorem hexDg_small {d : Nat} (h : d < 10) : hexDg d = UInt8.ofNat (48 + d) := by unfold hexDg; rw [if_pos h]
theorem lowDigs_dec (t : Nat) : lowDigs 10 (Lib.nDigits t) t = Lib.decDigits t := by
  induction t using Nat.strongRecOn with
  | _ t ih =>
    rw [Lib.decDigits]
    by_cases h : t < 10
    · rw [dif_pos h, Lib.nDigits_small h]
      simp only [lowDigs, List.nil_append]
      rw [Nat.mod_eq_of_lt h, hexDg_small h]
    · rw [dif_neg h, Lib.nDigits_big h, lowDigs, ih (t / 10) (by omega), hexDg_small (Nat.mod_lt _ (by decide))]
/-- The loop of digits goes on exactly below that many rounds. -/
def goesOn (base least t N : Nat) : Prop := ∀ k, k ≤ N → ((k < least ∨ 0 < t / base ^ k) ↔ k < N)
theorem goesOn_hex {t : Nat} (h : t < 4294967296) : goesOn 16 8 t 8 := by
  intro k hk
  constructor
  · rintro (h1 | h1)
    · exact h1
    · rcases Nat.lt_or_ge k 8 with h2 | h2
      · exact h2
      · obtain rfl : k = 8 := by omega
        have : t / 16 ^ 8 = 0 := Nat.div_eq_of_lt (by simpa using h)
        omega
  · exact fun h => .inl h
theorem nDigits_pow (t : Nat) : ∀ k, 1 ≤ k → (0 < t / 10 ^ k ↔ k < Lib.nDigits t) := by
  induction t using Nat.strongRecOn with
  | _ t ih =>
    intro k hk
    by_cases h : t < 10
    · rw [Lib.nDigits_small h]
      have h10 : 10 ^ 1 ≤ 10 ^ k := Nat.pow_le_pow_right (by decide) hk
      have : t / 10 ^ k = 0 := Nat.div_eq_of_lt (by omega)
      omega
    · rw [Lib.nDigits_big h]
      have e : t / 10 ^ k = t / 10 / 10 ^ (k - 1) := by
        rw [Nat.div_div_eq_div_mul]
        congr 1
        conv => lhs; rw [show k = k - 1 + 1 by omega, Nat.pow_succ, Nat.mul_comm]
      rw [e]
      by_cases h1 : k = 1
      · subst h1
        have := Lib.nDigits_pos (t / 10)
        simp
        omega
      · rw [ih (t / 10) (by omega) (k - 1) (by omega)]
        omega
theorem goesOn_dec (t : Nat) : goesOn 10 1 t (Lib.nDigits t) := by
  intro k hk
  have hp := Lib.nDigits_pos t
  by_cases h : k = 0
  · subst h
    exact ⟨fun _ => by omega, fun _ => .inl (by omega)⟩
  · have := nDigits_pow t k (by omega)
    rw [← this]
    constructor
    · rintro (h1 | h1)
      · omega
      · exact h1
    · exact fun h => .inr h
theorem nDigits_le (t : Nat) (h : t < 100000000000) : Lib.nDigits t ≤ 11 := by
  rcases Nat.lt_or_ge 11 (Lib.nDigits t) with h1 | h1
  · have := (nDigits_pow t 11 (by decide)).2 h1
    have : t / 10 ^ 11 = 0 := Nat.div_eq_of_lt (by simpa using h)
    omega
  · exact h1
/-- One step of the number that digits spell. -/
def stepV (base : Nat) (c : UInt8) (n : Nat) : Nat := match dval base c with | some d => n * base + d | none => n
/-- The same, as far as the digits below j have been looked at. -/
def stepTo (base : Nat) (c : UInt8) (n j : Nat) : Nat := match dval base c with | some d => if d < j then n * base + d else n | none => n
theorem stepTo_zero (base : Nat) (c : UInt8) (n : Nat) : stepTo base c n 0 = n := by unfold stepTo; split <;> simp
theorem stepTo_all {base : Nat} (hb : base = 10 ∨ base = 16) (c : UInt8) (n : Nat) : stepTo base c n base = stepV base c n := by
  unfold stepTo stepV
  cases h : dval base c with
  | none => rfl
  | some d => have := dval_lt hb h; simp [this]
theorem hexDg_dval {base j : Nat} (hb : base = 10 ∨ base = 16) (hj : j < base) (c : UInt8) : (hexDg j).toNat = c.toNat ↔ dval base c = some j := by
  have h1 : dval base (hexDg j) = some j := by
    rcases hb with rfl | rfl
    · rw [hexDg_small hj]; exact dval_dec j hj
    · exact dval_hexDg j hj
  constructor
  · intro h
    have : hexDg j = c := UInt8.toNat_inj.1 h
    rw [← this]; exact h1
  · intro h
    have h16 : j < 16 := by omega
    unfold dval at h
    split at h
    · injection h with h
      have : j < 10 := by omega
      rw [hexDg_small this]
      simp
      omega
    · split at h
      · injection h with h
        unfold hexDg
        rw [if_neg (by omega)]
        simp
        omega
      · cases h
theorem stepTo_hit {base : Nat} (c : UInt8) (n : Nat) {j : Nat} (h : dval base c = some j) : stepTo base c n j = n ∧ stepTo base c n (j + 1) = n * base + j := by
  unfold stepTo; rw [h]; simp
theorem stepTo_miss {base : Nat} (c : UInt8) (n : Nat) {j : Nat} (h : ¬ dval base c = some j) : stepTo base c n (j + 1) = stepTo base c n j := by
  unfold stepTo
  cases hd : dval base c with
  | none => rfl
  | some d =>
    have : d ≠ j := fun e => h (by rw [hd, e])
    by_cases h1 : d < j
    · simp [h1, show d < j + 1 by omega]
    · simp [h1, show ¬ d < j + 1 by omega]
theorem valL_snoc (base : Nat) (l : List UInt8) (c : UInt8) (n : Nat) : valL base (l ++ [c]) n = stepV base c (valL base l n) := by
  rw [valL_append]; rfl
theorem stepV_lt {base : Nat} (hb : base = 10 ∨ base = 16) (c : UInt8) {n b : Nat} (h : n < b) : stepV base c n < b * 16 := by
  unfold stepV
  cases hd : dval base c with
  | none => simp only; omega
  | some d =>
    have := dval_lt hb hd
    simp only
    rcases hb with rfl | rfl <;> omega
theorem valL_lt {base : Nat} (hb : base = 10 ∨ base = 16) (l : List UInt8) : ∀ (n b : Nat), n < b → valL base l n < b * 16 ^ l.length := by
  induction l with
  | nil => intro n b h; simpa [valL] using h
  | cons c cs ih =>
    intro n b h
    have h1 := ih _ _ (stepV_lt hb c h)
    rw [List.length_cons, Nat.pow_succ, Nat.mul_comm (16 ^ cs.length) 16, ← Nat.mul_assoc]
    exact h1
theorem valL_bd {base : Nat} (hb : base = 10 ∨ base = 16) (l : List UInt8) (h : l.length ≤ 11) : valL base l 0 ≤ 17592186044416 := by
  have h1 := valL_lt hb l 0 1 (by omega)
  have h2 : 16 ^ l.length ≤ 16 ^ 11 := Nat.pow_le_pow_right (by decide) h
  have h3 : (16 : Nat) ^ 11 = 17592186044416 := by decide
  omega
/-! ### What the two readers return -/
/-- A number, reduced. -/
def redW (n : Int) : Int := (n + 2147483648) % 4294967296 - 2147483648
/-- What is left of the word and the number that are read. -/
def keepT (l : List UInt8) (v : Int) (hex : Bool) : Int × Int := if textL v hex = l then (v, 0) else (0, 5)
/-- The number and the base that the reference takes a text for. -/
def guessR (l : List UInt8) : Int × Bool := match l with
  | 35 :: ds => ((valL 16 ds 0 : Nat), true)
  | 45 :: ds => (-(valL 10 ds 0 : Nat), false)
  | ds => ((valL 10 ds 0 : Nat), false)
def readR (l : List UInt8) : Int × Int := if 1 ≤ l.length ∧ l.length ≤ 11 then keepT l (redW (guessR l).1) (guessR l).2 else (0, 5)
/-- The number and the base that the program takes a text for. -/
def guessC (l : List UInt8) : Option (Int × Bool) := match l with
  | 35 :: ds => (natL 16 ds 0).map fun (n : Nat) => ((n : Int), true)
  | 45 :: ds => (natL 10 ds 0).map fun (n : Nat) => (-(n : Int), false)
  | ds => (natL 10 ds 0).map fun (n : Nat) => ((n : Int), false)
def readC (l : List UInt8) : Int × Int := match guessC l with
  | some (n, hex) => keepT l (redW n) hex
  | none => (0, 5)

theorem uns_red (v : Int) (h0 : -2147483648 ≤ v) (h1 : v ≤ 2147483647) : redW (uns v : Nat) = v := by unfold redW uns; omega
theorem redW_in (v : Int) (h0 : -2147483648 ≤ v) (h1 : v ≤ 2147483647) : redW v = v := by unfold redW; omega
theorem guessC_text (v : Int) (hex : Bool) (h0 : -2147483648 ≤ v) (h1 : v ≤ 2147483647) : ∃ n, guessC (textL v hex) = some (n, hex) ∧ redW n = v := by
  cases hex
  · by_cases hn : v < 0
    · have e : textL v false = 45 :: Lib.decDigits v.natAbs := by unfold textL Lib.itoa; simp [hn]
      refine ⟨-(v.natAbs : Int), ?_, ?_⟩
      · rw [e]
        simp only [guessC]
        rw [natL_dec _ (by omega)]
        rfl
      · rw [show -(v.natAbs : Int) = v by omega]
        exact redW_in v h0 h1
    · have e : textL v false = Lib.decDigits v.toNat := by unfold textL Lib.itoa; simp [hn]
      obtain ⟨c, cs, hc, c0, c1⟩ := decDigits_head v.toNat
      refine ⟨(v.toNat : Int), ?_, ?_⟩
      · have hd := natL_dec v.toNat (by omega)
        rw [e]
        rw [hc] at hd ⊢
        have n35 : c ≠ 35 := by rintro rfl; exact absurd c0 (by decide)
        have n45 : c ≠ 45 := by rintro rfl; exact absurd c0 (by decide)
        unfold guessC
        split
        · rename_i ds heq; injection heq with h _; exact absurd h n35
        · rename_i ds heq; injection heq with h _; exact absurd h n45
        · rw [hd]; rfl
      · rw [show (v.toNat : Int) = v by omega]
        exact redW_in v h0 h1
  · have e : textL v true = 35 :: hexDigs 8 (uns v) := by unfold textL; simp
    refine ⟨(uns v : Nat), ?_, uns_red v h0 h1⟩
    rw [e]
    simp only [guessC]
    rw [natL_text_hex]
    rfl
theorem guessR_of_C {l : List UInt8} {n : Int} {hex : Bool} (h : guessC l = some (n, hex)) : guessR l = (n, hex) := by
  unfold guessC at h
  unfold guessR
  split at h
  all_goals
    rw [Option.map_eq_some_iff] at h
    obtain ⟨m, hm, he⟩ := h
    have hv := natL_valL _ _ hm
    injection he with e1 e2
    subst e1 e2
    first | rw [← hv] | simp only [hv]
theorem decDigits_len (t : Nat) : (Lib.decDigits t).length ≤ 10 ∨ 10000000000 ≤ t := by
  rcases Nat.lt_or_ge t 10000000000 with h1 | h1
  · left
    rw [Lib.decDigits_length]
    rcases Nat.lt_or_ge 10 (Lib.nDigits t) with h2 | h2
    · have := (nDigits_pow t 10 (by decide)).2 h2
      have : t / 10 ^ 10 = 0 := Nat.div_eq_of_lt (by simpa using h1)
      omega
    · exact h2
  · exact .inr h1
theorem text_len (v : Int) (hex : Bool) (h0 : -2147483648 ≤ v) (h1 : v ≤ 2147483647) : 1 ≤ (textL v hex).length ∧ (textL v hex).length ≤ 11 := by
  cases hex
  · unfold textL Lib.itoa
    have hp : ∀ t, 1 ≤ (Lib.decDigits t).length := fun t => by rw [Lib.decDigits_length]; exact Lib.nDigits_pos t
    by_cases hn : v < 0
    · have h2 := decDigits_len v.natAbs
      simp [hn]
      omega
    · have h2 := decDigits_len v.toNat
      have := hp v.toNat
      simp [hn]
      omega
  · unfold textL
    simp [hexDigs_length]
theorem keepT_spec (l : List UInt8) (v : Int) (hex : Bool) : (keepT l v hex = (v, 0) ∧ textL v hex = l) ∨ (keepT l v hex = (0, 5) ∧ textL v hex ≠ l) := by
  unfold keepT
  by_cases h : textL v hex = l
  · exact .inl ⟨if_pos h, h⟩
  · exact .inr ⟨if_neg h, h⟩
theorem redW_bd (n : Int) : -2147483648 ≤ redW n ∧ redW n ≤ 2147483647 := by unfold redW; omega
/-- Each reads the text of a word as that word. -/
theorem readC_text (v : Int) (hex : Bool) (h0 : -2147483648 ≤ v) (h1 : v ≤ 2147483647) : readC (textL v hex) = (v, 0) := by
  obtain ⟨n, hg, hr⟩ := guessC_text v hex h0 h1
  unfold readC
  rw [hg]
  simp only [hr]
  unfold keepT
  rw [if_pos rfl]
theorem readR_text (v : Int) (hex : Bool) (h0 : -2147483648 ≤ v) (h1 : v ≤ 2147483647) : readR (textL v hex) = (v, 0) := by
  obtain ⟨n, hg, hr⟩ := guessC_text v hex h0 h1
  have hR := guessR_of_C hg
  unfold readR
  rw [if_pos (text_len v hex h0 h1), hR]
  simp only [hr]
  unfold keepT
  rw [if_pos rfl]
theorem readC_cases (l : List UInt8) : readC l = (0, 5) ∨ ∃ v hex, -2147483648 ≤ v ∧ v ≤ 2147483647 ∧ textL v hex = l := by
  unfold readC
  split
  · rename_i n hex _
    rcases keepT_spec l (redW n) hex with ⟨h, h'⟩ | ⟨h, _⟩
    · exact .inr ⟨_, _, (redW_bd n).1, (redW_bd n).2, h'⟩
    · exact .inl h
  · exact .inl rfl
theorem readR_cases (l : List UInt8) : readR l = (0, 5) ∨ ∃ v hex, -2147483648 ≤ v ∧ v ≤ 2147483647 ∧ textL v hex = l := by
  unfold readR
  split
  · rcases keepT_spec l (redW (guessR l).1) (guessR l).2 with ⟨h, h'⟩ | ⟨h, _⟩
    · exact .inr ⟨_, _, (redW_bd _).1, (redW_bd _).2, h'⟩
    · exact .inl h
  · exact .inl rfl
/-- Both readers return the same. -/
theorem readC_eq (l : List UInt8) : readC l = readR l := by
  rcases readC_cases l with h | ⟨v, hex, h0, h1, rfl⟩
  · rcases readR_cases l with h' | ⟨v, hex, h0, h1, rfl⟩
    · rw [h, h']
    · rw [readC_text v hex h0 h1, readR_text v hex h0 h1]
  · rw [readC_text v hex h0 h1, readR_text v hex h0 h1]
/-- A text is that of one word alone, in one form alone. -/
theorem text_inj {v u : Int} {hex dec : Bool} (h0 : -2147483648 ≤ v) (h1 : v ≤ 2147483647) (g0 : -2147483648 ≤ u) (g1 : u ≤ 2147483647) (h : textL v hex = textL u dec) : v = u ∧ hex = dec := by
  obtain ⟨n, hn, hr⟩ := guessC_text v hex h0 h1
  obtain ⟨m, hm, hs⟩ := guessC_text u dec g0 g1
  rw [h, hm] at hn
  injection hn with hn
  injection hn with e1 e2
  subst e1 e2
  exact ⟨hr.symm.trans hs, rfl⟩
end Go.Proofs.YtblckajejohlbaaDoor
