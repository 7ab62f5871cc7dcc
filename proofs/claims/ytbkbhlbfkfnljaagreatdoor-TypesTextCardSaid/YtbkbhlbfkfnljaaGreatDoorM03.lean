/- Contracts of the integer functions of package word and of its reference: what each returns, for all words. -/
import Derived.WalkKit
import Derived.WalkSpells
import Derived.WalkLawsBesides
import Derived.Handy
import Derived.Laws.Shifts
import Derived.Lib.Hide
import Derived.Deep.QuietTactic
import Derived.BigQuiet
import Derived.Deep.RegionWith
import Derived.IntWalk
import Derived.Lib.IndexBytes
import Derived.Lib.OthersKept
import Derived.Laws.RangeAny
import Derived.Test.YtbkbhlbfkfnljaaGreatDoorRows
import Derived.Test.YtbkbhlbfkfnljaaGreatDoorNum
import Derived.Test.YtbkbhlbfkfnljaaGreatDoorShelf
set_option linter.unusedVariables false
set_option linter.unusedSimpArgs false
set_option linter.unusedVariables false
set_option linter.unusedSimpArgs false
namespace Go.Proofs.YtbkbhlbfkfnljaaGreatDoor.W1
open Go Go.RowKit

/-- The number does not fit into a word. -/
def overB (x : Int) : Bool := !(decide (-2147483648 ≤ x) && decide (x < 2147483648))

theorem ret_ib {k : IntKind} {a b : Int} {p q : Bool} (h : a = b) (h' : p = q) : Ending.returned (.tuple #[.int k a, .bool p]) = .returned (.tuple #[.int k b, .bool q]) := by rw [h, h']
theorem ret_i {k : IntKind} {a b : Int} (h : a = b) : Ending.returned (.int k a) = .returned (.int k b) := by rw [h]
theorem ret_b {p q : Bool} (h : p = q) : Ending.returned (.bool p) = .returned (.bool q) := by rw [h]

theorem red64_any (x : Int) (w : World) : Calls Tryz.prog 81 #[.int .i64 x] w fun e w' => e = .returned (.int .i32 (wrap32 x)) ∧ w = w' := by
  go_enter Tryz.func81, Tryz.ntmps81
  go_wp2
  go_ret
  exact ⟨rfl, rfl⟩
theorem redu_any (x : Int) (w : World) : Calls Tryz.prog 66 #[.int .u32 x] w fun e w' => e = .returned (.int .i32 (wrap32 x)) ∧ w = w' := by
  go_enter Tryz.func66, Tryz.ntmps66
  go_wp2
  go_ret
  exact ⟨rfl, rfl⟩
theorem wrap32_over (x : Int) : (wrap64 (wrap32 x) != x) = overB x := by
  unfold overB wrap64 wrap32
  by_cases h : -2147483648 ≤ x <;> by_cases h' : x < 2147483648 <;> simp [h, h'] <;> omega
/-- A word. -/
def isW (a : Int) : Prop := -2147483648 ≤ a ∧ a ≤ 2147483647
theorem isW_wrap32 (x : Int) : isW (wrap32 x) := by unfold isW wrap32; omega
theorem isW_of_wf {a : Int} (h : (Lit.int .i32 a).wf = true) : isW a := by
  simp only [Lit.wf, IntKind.min, IntKind.max, IntKind.signed, IntKind.bits, Bool.and_eq_true, decide_eq_true_eq, if_true] at h
  exact ⟨by omega, by omega⟩

theorem mul_bd {a b : Int} (ha : isW a) (hb : isW b) : -4611686018427387904 ≤ a * b ∧ a * b ≤ 4611686018427387904 := by
  unfold isW at ha hb
  have h1 : a.natAbs ≤ 2147483648 := by omega
  have h2 : b.natAbs ≤ 2147483648 := by omega
  have h3 : (a * b).natAbs ≤ 2147483648 * 2147483648 := by rw [Int.natAbs_mul]; exact Nat.mul_le_mul h1 h2
  omega
/-- After: the difference is above 0. -/
def aftB (a b : Int) : Bool := decide (0 < wrap32 (a - b))
/-- The quotient, the remainder; whether there is none. -/
def divB (a b : Int) : Bool := (b == 0) || ((a == -2147483648) && (b == -1))
def divR (a b : Int) : Int := if divB a b = true then 0 else a.tdiv b
theorem tdiv_bd {a b : Int} (ha : isW a) (hb : ¬ b = 0) (h : ¬ (a = -2147483648 ∧ b = -1)) : isW (a.tdiv b) := by
  unfold isW at *
  obtain ⟨a0, a1⟩ := ha
  have hn : (a.tdiv b).natAbs = a.natAbs / b.natAbs := Int.natAbs_tdiv ..
  by_cases hb1 : b.natAbs = 1
  · rw [hb1, Nat.div_one] at hn
    rcases (show b = 1 ∨ b = -1 by omega) with rfl | rfl
    · rw [Int.tdiv_one]; exact ⟨a0, a1⟩
    · have : a ≠ -2147483648 := fun e => h ⟨e, rfl⟩
      omega
  · have h2 : a.natAbs / b.natAbs ≤ a.natAbs / 2 := Nat.div_le_div_left (by omega) (by omega)
    omega
theorem wrap32_in {x : Int} (h : isW x) : wrap32 x = x := by unfold isW at h; unfold wrap32; omega
def remR (a b : Int) : Int := if b == 0 then 0 else a.tmod b
theorem tmod_bd {a b : Int} (ha : isW a) : isW (a.tmod b) := by
  unfold isW at *
  have hn : (a.tmod b).natAbs = a.natAbs % b.natAbs := Int.natAbs_tmod ..
  have hm : a.natAbs % b.natAbs ≤ a.natAbs := Nat.mod_le ..
  obtain ⟨a0, a1⟩ := ha
  rcases Int.le_total 0 a with h | h
  · have := Int.tmod_nonneg b h
    omega
  · have := Int.tmod_nonneg (a := -a) b (by omega)
    rw [Int.neg_tmod] at this
    omega
/-- The number of places that counts. -/
def plc (n : Int) : Nat := min (n % 4294967296).toNat 32
def shlR (a n : Int) : Int := wrap32 (a * 2 ^ plc n)
def shrR (a n : Int) : Int := wrap32 ((a % 4294967296) / 2 ^ plc n)
theorem shl_form (a x : Int) : wrap32 (IntKind.u32.wrap (a % 4294967296 * x)) = wrap32 (a * x) := by
  rw [IntKind.wrap_u32, show a = a % 4294967296 + 4294967296 * (a / 4294967296) by omega]
  generalize a / 4294967296 = q
  generalize a % 4294967296 = r
  have h1 : (r + 4294967296 * q) % 4294967296 = r % 4294967296 := by omega
  rw [h1]
  have h2 : (r + 4294967296 * q) * x = r * x + 4294967296 * (q * x) := by rw [Int.add_mul, Int.mul_assoc]
  rw [h2]
  have h3 : (r % 4294967296 * x) % 4294967296 = (r * x) % 4294967296 := by rw [Int.mul_emod, Int.emod_emod_of_dvd _ (Int.dvd_refl _), ← Int.mul_emod]
  rw [h3]
  unfold wrap32
  omega
theorem Shr_any (a b : Int) (w : World) : Calls Tryz.prog 55 #[.int .i32 a, .int .i32 b] w fun e w' => e = .returned (.int .i32 (shrR a b)) ∧ w = w' := by
  have hp : 0 ≤ b % 4294967296 := by omega
  go_enter Tryz.func55, Tryz.ntmps55
  go_wp2_with (go_at_call 66; refine (redu_any _ _).mono ?_; rintro e w' ⟨rfl, rfl⟩)
  go_ret
  exact ⟨ret_i rfl, rfl⟩
def xwR (a b : Int) : Int := if a % 4294967296 < b % 4294967296 then a else wrap32 (a - 2 * b)
def cwB (a b : Int) : Bool := decide (b ≤ a) || decide (a < wrap32 (0 - b))
end Go.Proofs.YtbkbhlbfkfnljaaGreatDoor.W1
/- Contracts of the integer functions of the reference of layer 1: each returns what its twin of package word returns, for all words. -/
set_option linter.unusedVariables false
set_option linter.unusedSimpArgs false
namespace Go.Proofs.YtbkbhlbfkfnljaaGreatDoor.W1
open Go Go.RowKit

theorem emod_of_tmod_neg {t : Int} (h : t.tmod 4294967296 < 0) : t.tmod 4294967296 + 4294967296 = t % 4294967296 := by
  have h1 : t = 4294967296 * t.tdiv 4294967296 + t.tmod 4294967296 := (Int.mul_tdiv_add_tmod t 4294967296).symm
  have h2 := Int.lt_tmod_of_pos t (show (0 : Int) < 4294967296 by omega)
  generalize t.tmod 4294967296 = r at *
  generalize t.tdiv 4294967296 = q at *
  omega
theorem emod_of_tmod_nonneg {t : Int} (h : ¬ t.tmod 4294967296 < 0) : t.tmod 4294967296 = t % 4294967296 := by
  have h1 : t = 4294967296 * t.tdiv 4294967296 + t.tmod 4294967296 := (Int.mul_tdiv_add_tmod t 4294967296).symm
  have h2 := Int.tmod_lt_of_pos t (show (0 : Int) < 4294967296 by omega)
  generalize t.tmod 4294967296 = r at *
  generalize t.tdiv 4294967296 = q at *
  omega
theorem tmod_rng (t : Int) : -4294967296 < t.tmod 4294967296 ∧ t.tmod 4294967296 < 4294967296 :=
  ⟨Int.lt_tmod_of_pos t (by omega), Int.tmod_lt_of_pos t (by omega)⟩
/-- A number far from the ends of an int64. -/
def isD (t : Int) : Prop := -4611686018427387904 ≤ t ∧ t ≤ 4611686018427387904
theorem tdiv_same {a b : Int} (h : (a < 0) ↔ (b < 0)) : a.tdiv b = (a.natAbs : Int) / (b.natAbs : Int) := by
  rcases Int.lt_or_le a 0 with ha | ha
  · have hb := h.1 ha
    rw [show (a.natAbs : Int) = -a by omega, show (b.natAbs : Int) = -b by omega, ← Int.tdiv_eq_ediv_of_nonneg (by omega), Int.neg_tdiv, Int.tdiv_neg, Int.neg_neg]
  · have hb : ¬ b < 0 := fun hb => by have := h.2 hb; omega
    rw [show (a.natAbs : Int) = a by omega, show (b.natAbs : Int) = b by omega, ← Int.tdiv_eq_ediv_of_nonneg (by omega)]
theorem tdiv_other {a b : Int} (h : ¬ ((a < 0) ↔ (b < 0))) : a.tdiv b = -((a.natAbs : Int) / (b.natAbs : Int)) := by
  rcases Int.lt_or_le a 0 with ha | ha
  · have hb : ¬ b < 0 := fun hb => h ⟨fun _ => hb, fun _ => ha⟩
    rw [show (a.natAbs : Int) = -a by omega, show (b.natAbs : Int) = b by omega, ← Int.tdiv_eq_ediv_of_nonneg (by omega), Int.neg_tdiv, Int.neg_neg]
  · have hb : b < 0 := by
      rcases Int.lt_or_le b 0 with hb | hb
      · exact hb
      · exact absurd ⟨fun h => by omega, fun h => by omega⟩ h
    rw [show (a.natAbs : Int) = a by omega, show (b.natAbs : Int) = -b by omega, ← Int.tdiv_eq_ediv_of_nonneg (by omega), Int.tdiv_neg, Int.neg_neg]
theorem quo_bd {a b : Int} (ha : isW a) : 0 ≤ (a.natAbs : Int) / (b.natAbs : Int) ∧ (a.natAbs : Int) / (b.natAbs : Int) ≤ 2147483648 := by
  obtain ⟨a0, a1⟩ := ha
  have hm : a.natAbs ≤ 2147483648 := by omega
  have hd : a.natAbs / b.natAbs ≤ a.natAbs := Nat.div_le_self ..
  have hc : ((a.natAbs / b.natAbs : Nat) : Int) = (a.natAbs : Int) / (b.natAbs : Int) := Int.natCast_ediv ..
  rw [← hc]
  generalize a.natAbs / b.natAbs = q at *
  generalize a.natAbs = m at *
  omega
theorem natAbs_mod {a b : Int} : ((a.natAbs : Int) % (b.natAbs : Int)) = ((a.tmod b).natAbs : Int) := by
  rw [Int.natAbs_tmod, ← Int.natCast_emod]
theorem tmod_sign {a b : Int} : (a < 0 → a.tmod b ≤ 0) ∧ (0 ≤ a → 0 ≤ a.tmod b) := by
  refine ⟨fun h => ?_, fun h => Int.tmod_nonneg b h⟩
  have := Int.tmod_nonneg (a := -a) b (by omega)
  rw [Int.neg_tmod] at this
  omega
end Go.Proofs.YtbkbhlbfkfnljaaGreatDoor.W1
/- Contracts of the loops of the reference of layer 1: shifting place by place. -/
set_option linter.unusedVariables false
set_option linter.unusedSimpArgs false
namespace Go.Proofs.YtbkbhlbfkfnljaaGreatDoor.W1
open Go Go.RowKit

theorem wrap32_twice (a : Int) (k : Nat) : wrap32 (2 * wrap32 (a * 2 ^ k)) = wrap32 (a * 2 ^ (k + 1)) := by
  rw [Int.pow_succ, ← Int.mul_assoc]
  generalize a * 2 ^ k = x
  unfold wrap32
  omega
theorem half_pow (x : Int) (k : Nat) : x / 2 ^ k / 2 = x / 2 ^ (k + 1) := by
  rw [Int.pow_succ, Int.ediv_ediv_of_nonneg (Int.pow_nonneg (by omega))]
theorem shr_bd (a : Int) (k : Nat) : 0 ≤ a % 4294967296 / 2 ^ k ∧ a % 4294967296 / 2 ^ k ≤ 4294967295 := by
  have h0 : 0 ≤ a % 4294967296 := by omega
  refine ⟨Int.ediv_nonneg h0 (Int.pow_nonneg (by omega)), ?_⟩
  have := Int.ediv_le_self (b := 2 ^ k) h0
  omega
end Go.Proofs.YtbkbhlbfkfnljaaGreatDoor.W1
/- Contracts of the texts of the reference of layer 1: its digits are those of the number. -/
set_option linter.unusedVariables false
set_option linter.unusedSimpArgs false
namespace Go.Proofs.YtbkbhlbfkfnljaaGreatDoor.W1
open Go Go.RowKit

/-- A string of bytes. -/
def strOf (l : List UInt8) : ByteArray := ⟨l.toArray⟩
theorem strOf_append (a b : List UInt8) : strOf (a ++ b) = strOf a ++ strOf b := by
  apply ByteArray.ext
  simp [strOf]
theorem strOf_cons (a : UInt8) (b : List UInt8) : strOf (a :: b) = strOf [a] ++ strOf b := strOf_append [a] b
theorem strOf_size (l : List UInt8) : (strOf l).size = l.length := by simp [strOf, ByteArray.size]
theorem cat_str (a b : List UInt8) (h : a.length + b.length ≤ 1000000) : Op.stringOp .add (strOf a) (strOf b) = pure (.string (strOf (a ++ b))) := by
  unfold Op.stringOp
  simp only [strOf_size]
  rw [if_neg (by simp [IntKind.max, IntKind.signed, IntKind.bits]; omega), strOf_append]
theorem lowDigs_length : ∀ base n t, (lowDigs base n t).length = n
  | _, 0, _ => rfl
  | base, n + 1, t => by unfold lowDigs; rw [List.length_append, lowDigs_length base n]; rfl
theorem slice_dig (d : Nat) (h : d < 16) : ∀ W : World, (Instr.slice 9 (.string ⟨#[48, 49, 50, 51, 52, 53, 54, 55, 56, 57, 65, 66, 67, 68, 69, 70]⟩) (some (.int .i64 (d : Int))) (some (.int .i64 ((d : Int) + 1))) none).run Tryz.prog W = .ok (.string (strOf [hexDg d])) W := by
  intro W
  have hs : (⟨#[48, 49, 50, 51, 52, 53, 54, 55, 56, 57, 65, 66, 67, 68, 69, 70]⟩ : ByteArray).size = 16 := rfl
  rw [run_slice_string W 9 _ .i64 .i64 (d : Int) ((d : Int) + 1) Tryz.underlying9 (by omega) (by omega) (by rw [hs]; omega)]
  have ht : ∀ d : Fin 16, ((⟨#[48, 49, 50, 51, 52, 53, 54, 55, 56, 57, 65, 66, 67, 68, 69, 70]⟩ : ByteArray).extract d.val (d.val + 1)).data.toList = [hexDg d.val] := by decide
  have h1 := ht ⟨d, h⟩
  have e : ((d : Int) + 1).toNat = d + 1 := by omega
  rw [Int.toNat_natCast, e]
  congr 2
  apply ByteArray.ext
  rw [← Array.toList_inj, h1]
  rfl

theorem uns_cast (v : Int) : ((uns v : Nat) : Int) = v % 4294967296 := by unfold uns; omega
theorem dec_bd (v : Int) (hv : isW v) : v.natAbs ≤ 4294967296 := by unfold isW at hv; omega
theorem decDigits_le (t : Nat) (h : t ≤ 4294967296) : (Lib.decDigits t).length ≤ 11 := by rw [Lib.decDigits_length]; exact nDigits_le _ (by omega)
theorem cat_cons (c : UInt8) (b : List UInt8) (h : b.length ≤ 100000) : Op.stringOp .add ⟨#[c]⟩ (strOf b) = pure (.string (strOf (c :: b))) := cat_str [c] b (by simp; omega)
end Go.Proofs.YtbkbhlbfkfnljaaGreatDoor.W1
/- The number that digits spell, as the reference of layer 1 reads it. -/
set_option linter.unusedVariables false
set_option linter.unusedSimpArgs false
namespace Go.Proofs.YtbkbhlbfkfnljaaGreatDoor.W1
open Go Go.RowKit

theorem take_snoc (s : ByteArray) (k : Nat) (h : k < s.size) : s.data.toList.take (k + 1) = s.data.toList.take k ++ [s[k]] := by
  rw [List.take_succ_eq_append_getElem (by simpa using h)]; rfl
theorem index_str (s : ByteArray) (k : Nat) (h : k < s.size) (W : World) : (Instr.index 9 (.string s) (.int .i64 (k : Int))).run Tryz.prog W = .ok (.int .u8 (s[k].toNat : Int)) W := by
  rw [run_index_string W 9 s .i64 (k : Int) Tryz.underlying9, dif_pos ⟨by omega, by omega⟩]
  rfl
theorem table_dig : ∀ d : Fin 16, (⟨#[48, 49, 50, 51, 52, 53, 54, 55, 56, 57, 65, 66, 67, 68, 69, 70]⟩ : ByteArray)[d.val]'d.2 = hexDg d.val := by decide
theorem index_dig (j : Nat) (h : j < 16) (W : World) : (Instr.index 9 (.string ⟨#[48, 49, 50, 51, 52, 53, 54, 55, 56, 57, 65, 66, 67, 68, 69, 70]⟩) (.int .i64 (j : Int))).run Tryz.prog W = .ok (.int .u8 ((hexDg j).toNat : Int)) W := by
  have hs : (⟨#[48, 49, 50, 51, 52, 53, 54, 55, 56, 57, 65, 66, 67, 68, 69, 70]⟩ : ByteArray).size = 16 := rfl
  rw [index_str _ j (by rw [hs]; exact h)]
  rw [table_dig ⟨j, h⟩]

end Go.Proofs.YtbkbhlbfkfnljaaGreatDoor.W1
/- The reference of layer 1 reads a text as 'readR' says. -/
set_option linter.unusedVariables false
set_option linter.unusedSimpArgs false
namespace Go.Proofs.YtbkbhlbfkfnljaaGreatDoor.W1
open Go Go.RowKit

theorem redW_eq (n : Int) : wrap32 n = redW n := by unfold wrap32 redW; rfl
theorem slice_one (s : ByteArray) (h : 1 ≤ s.size) (W : World) : (Instr.slice 9 (.string s) (some (.int .i64 1)) none none).run Tryz.prog W = .ok (.string (s.extract 1 s.size)) W := by
  rw [run_slice_string_from_if W 9 s .i64 1 Tryz.underlying9, if_pos ⟨by omega, by omega⟩]
  rfl
theorem eq_strOf (l : List UInt8) (s : ByteArray) : ((strOf l).toList == s.toList) = decide (l = s.data.toList) := by
  rw [Lib.toList_data, Lib.toList_data]
  show (l == s.data.toList) = _
  by_cases h : l = s.data.toList <;> simp [h]
theorem ret_ii {j k : IntKind} {a b c d : Int} (h : a = b) (h' : c = d) : Ending.returned (.tuple #[.int j a, .int k c]) = .returned (.tuple #[.int j b, .int k d]) := by rw [h, h']
/-- What the first byte and the rest are. -/
theorem first_of (s : ByteArray) (h : 1 ≤ s.size) : s.data.toList = s[0] :: s.data.toList.drop 1 := by
  have : 0 < s.data.toList.length := by
    have hl : s.data.toList.length = s.size := by simp
    omega
  conv => lhs; rw [← List.drop_zero (l := s.data.toList), List.drop_eq_getElem_cons this]
  rfl
theorem val_bd {base : Nat} (hb : base = 10 ∨ base = 16) (l : List UInt8) (h : l.length ≤ 11) : (0 : Int) ≤ (valL base l 0 : Nat) ∧ ((valL base l 0 : Nat) : Int) ≤ 17592186044416 :=
  ⟨by omega, by have := valL_bd hb l h; omega⟩
/-- The last step: the text of the word that was guessed is compared. -/
theorem keep_end (l : List UInt8) (s : ByteArray) (hs : s.data.toList = l) (n : Int) (hex : Bool) : (((strOf (textL (wrap32 n) hex)).toList == s.toList) = true ∧ keepT l (redW n) hex = (wrap32 n, 0)) ∨ (((strOf (textL (wrap32 n) hex)).toList == s.toList) = false ∧ keepT l (redW n) hex = (0, 5)) := by
  rw [eq_strOf, hs]
  unfold keepT
  rw [redW_eq]
  by_cases h : textL (redW n) hex = l
  · exact .inl ⟨by simp [h], if_pos h⟩
  · exact .inr ⟨by simp [h], if_neg h⟩
end Go.Proofs.YtbkbhlbfkfnljaaGreatDoor.W1
/- strings.IndexRune finds no rune above ASCII in a string of ASCII. -/
set_option linter.unusedVariables false
set_option linter.unusedSimpArgs false
namespace Go.Proofs.YtbkbhlbfkfnljaaGreatDoor.W1
open Go Go.RowKit

def asciiS (s : ByteArray) : Prop := ∀ b ∈ s.data.toList, b.toNat < 128
theorem indexByte_no : ∀ (l : List UInt8) (c : UInt8), (∀ b ∈ l, b ≠ c) → Lib.indexByte l c = -1
  | [], _, _ => rfl
  | b :: l, c, h => by
    have h1 : (b == c) = false := by simpa using h b (by simp)
    have h2 := indexByte_no l c (fun x hx => h x (by simp [hx]))
    unfold Lib.indexByte
    rw [h1, h2]
    rfl
set_option maxRecDepth 100000 in
theorem IndexRune_bad (s : ByteArray) (r : Int) (h0 : 128 ≤ r) (hne : r ≠ 65533) (hv : Lib.validRune r = false) (w : World) :
    Calls Tryz.prog 106 #[.string s, .int .i32 r] w fun e w' => e = .returned (.int .i64 (-1)) ∧ w = w' := by
  have n1 : ¬ r < 128 := by omega
  have n2 : (r == 65533) = false := by simpa using hne
  go_enter Tryz.func106, Tryz.ntmps106
  go_wp2_with (go_at_call 111; refine (Tryz.utf8_ValidRune _ _).mono ?_; rintro e w' ⟨rfl, rfl⟩)
  go_ret
  exact ⟨rfl, rfl⟩
set_option maxRecDepth 100000 in
theorem IndexRune_error (s : ByteArray) (hs : asciiS s) (w : World) :
    Calls Tryz.prog 106 #[.string s, .int .i32 65533] w fun e w' => e = .returned (.int .i64 (-1)) ∧ Below w.heap.size w w' := by
  have hk0 := World.iter_heap w s 0
  have hb0 : Below w.heap.size w (w.iter s 0) := (Below.refl _ _).alloc (Nat.le_refl _) _
  go_enter Tryz.func106, Tryz.ntmps106
  go_wp2
  go_loopw [5, 6] (fun _ _ wr => ∃ pos : Nat, pos ≤ s.size ∧ wr.heap[w.heap.size]? = some (.stringIter s pos) ∧ Below w.heap.size w wr) (fun _ _ wr => s.size - wr.iterPos w.heap.size)
  case atStart => exact ⟨0, Nat.zero_le _, hk0, hb0⟩
  case round =>
    obtain ⟨pos, hps, hk, hnx⟩ := hrel
    clear hk0 hb0
    by_cases hp : pos < s.size
    · have h128 : (s[pos]'hp).toNat < 128 := hs _ (Array.getElem_mem_toList (xs := s.data) hp)
      have hnext : ∀ ty, (Instr.next (.pointer (some ⟨w.heap.size, 0, none⟩)) true ty).run Tryz.prog wr = _ := fun ty => Lib.run_next_ascii_at wr w.heap.size s pos ty hk hp h128
      have hk1 := Lib.iterAt_heap wr w.heap.size s pos (pos + 1) hk
      have hnx1 : Below w.heap.size w (wr.iterAt w.heap.size s (pos + 1)) := Lib.below_iterAt hnx (by omega) s (pos + 1)
      have hmu : wr.iterPos w.heap.size = pos := by simp [World.iterPos, hk]
      generalize wr.iterAt w.heap.size s (pos + 1) = W1 at hnext hk1 hnx1
      generalize (s[pos]'hp).toNat = q at *
      have hq : ((q : Int) == 65533) = false := by simp; omega
      have hmu2 : W1.iterPos w.heap.size = pos + 1 := by simp [World.iterPos, hk1]
      have Hm := Lib.hid hmu
      have Hm2 := Lib.hid hmu2
      clear hmu hmu2 hk
      go_wp2
      go_roundw
      case rel => exact ⟨pos + 1, by omega, hk1, hnx1⟩
      case measure =>
        rw [Hm.out, Hm2.out]
        omega
    · have hnext : ∀ ty, (Instr.next (.pointer (some ⟨w.heap.size, 0, none⟩)) true ty).run Tryz.prog wr = _ := fun ty => Lib.run_next_end_at wr w.heap.size s pos ty hk hp
      go_wp2
      go_ret
      exact ⟨rfl, hnx⟩
theorem quiet_more {P : Program} {f : FuncId} {args : Array Value} {w : World} {a n : Nat} {v : Value}
    (h : Calls P f args (w.drewN (a + n)) fun e w' => e = .returned v ∧ w' = w.drewN (a + n)) :
    Calls P f args (w.drewN (a + n)) fun e w'' => e = .returned v ∧ ∃ m, w'' = w.drewN (a + m) :=
  h.mono fun _ _ ⟨he, hm⟩ => ⟨he, n, hm⟩
theorem IndexByte_no (t : ByteArray) (ht : asciiS t) (q : Nat) (h0 : 128 ≤ q) (h1 : q < 256) (w : World) :
    Calls Tryz.prog 56 #[.string t, .int .u8 (q : Int)] w fun e w' => e = .returned (.int .i64 (-1)) ∧ w' = w := by
  have h := Tryz.strings_IndexByte t (q : Int) w
  rw [indexByte_no t.data.toList _ (fun b hb e => by
    have h2 := ht b hb
    rw [e] at h2
    simp at h2
    omega)] at h
  exact h
theorem ascii_extract (s : ByteArray) (hs : asciiS s) (a e : Nat) : asciiS (s.extract a e) := fun b hb => hs b (mem_extract hb)
theorem slice_from (s : ByteArray) (k : Nat) (h : k ≤ s.size) (W : World) : (Instr.slice 9 (.string s) (some (.int .i64 (k : Int))) none none).run Tryz.prog W = .ok (.string (s.extract k s.size)) W := by
  rw [run_slice_string_from_if W 9 s .i64 (k : Int) Tryz.underlying9, if_pos ⟨by omega, by omega⟩, Int.toNat_natCast]
theorem index_last (s : ByteArray) (k : Nat) (h0 : 1 ≤ k) (h : k - 1 < s.size) (W : World) : (Instr.index 9 (.string s) (.int .i64 ((k : Int) - 1))).run Tryz.prog W = .ok (.int .u8 ((s[k - 1]'h).toNat : Int)) W := by
  rw [show (k : Int) - 1 = ((k - 1 : Nat) : Int) by omega]
  exact index_str s (k - 1) h W
set_option maxRecDepth 100000 in
set_option maxHeartbeats 1000000 in
theorem IndexRune_good (s : ByteArray) (hs : asciiS s) (_hz : s.size ≤ 16) (r : Int) (h0 : 128 ≤ r) (hne : r ≠ 65533) (hv : Lib.validRune r = true) (w : World) :
    Calls Tryz.prog 106 #[.string s, .int .i32 r] w fun e w' => e = .returned (.int .i64 (-1)) ∧ ∃ n, w' = w.drewN n := by
  have n1 : ¬ r < 128 := by omega
  have n2 : (r == 65533) = false := by simpa using hne
  have hv' : Utf8.valid r = true := by rw [validRune_eq]; exact hv
  obtain ⟨z0, z1, z2⟩ := encode_facts r hv' h0
  by_cases hlt : (Utf8.encode r).size - 1 < s.size
  · have hx := fun W => index_last (Utf8.encode r) (Utf8.encode r).size (by omega) (by omega) W
    have hy := fun W => index_last s (Utf8.encode r).size (by omega) hlt W
    have hp : (s[(Utf8.encode r).size - 1]'hlt).toNat < 128 := hs _ (Array.getElem_mem_toList (xs := s.data) hlt)
    have hq := z2 (by omega)
    have hq2 : ((Utf8.encode r)[(Utf8.encode r).size - 1]'(by omega)).toNat < 256 := UInt8.toNat_lt _
    generalize (s[(Utf8.encode r).size - 1]'hlt).toNat = p at *
    generalize ((Utf8.encode r)[(Utf8.encode r).size - 1]'(by omega)).toNat = q at *
    have e1 : ((p : Int) == (q : Int)) = false := by simp; omega
    have e2 : (p == q) = false := by simp; omega
    clear z2 hv'
    have hlt' : ((Utf8.encode r).size : Int) - 1 < s.size := by omega
    go_enter Tryz.func106, Tryz.ntmps106
    go_wp2_with (go_at_call 111; refine (Tryz.utf8_ValidRune _ _).mono ?_; rintro e w' ⟨rfl, rfl⟩)
    go_step3
    go_wp2
    refine wp_loop_rounds 1 ?_
    rw [rounds_succ]
    go_wp2
    go_step3
    go_wp2
    go_quiet (fail)
    clear hy
    go_wp2
    have hsl := fun W => slice_from s (Utf8.encode r).size (by omega) W
    have w1 : IntKind.i64.wrap ((Utf8.encode r).size : Int) = ((Utf8.encode r).size : Int) := IntWalk.i64_in _ (by omega)
    have w2 : IntKind.i64.wrap ((Utf8.encode r).size - 1 + 1 : Int) = ((Utf8.encode r).size : Int) := by rw [IntWalk.i64_in _ (by omega)]; omega
    have ht := ascii_extract s hs (Utf8.encode r).size s.size
    generalize s.extract (Utf8.encode r).size s.size = t at *
    go_quiet ((go_at_call 56; exact quiet_more (IndexByte_no t ht q hq hq2 _)))
    clear hsl w1 w2 hx
    go_wp2
    rw [Exit.noGoto_ret]
    simp only [Exit.inBlock, Exit.then]
    rw [Exit.noGoto_ret]
    go_ret
    exact ⟨rfl, _, rfl⟩
  · clear z2 hv'
    have hlt' : ¬ ((Utf8.encode r).size : Int) - 1 < s.size := by omega
    go_enter Tryz.func106, Tryz.ntmps106
    go_wp2_with (go_at_call 111; refine (Tryz.utf8_ValidRune _ _).mono ?_; rintro e w' ⟨rfl, rfl⟩)
    go_step3
    go_wp2
    refine wp_loop_rounds 1 ?_
    rw [rounds_succ]
    go_wp2
    repeat rw [Exit.noGoto_ret]
    go_ret
    exact ⟨rfl, 0, rfl⟩
/-- At every rune: the place of an ASCII rune; none above. -/
theorem IndexRune_any (s : ByteArray) (hs : asciiS s) (hz : s.size ≤ 16) (r : Int) (h0 : 0 ≤ r) (w : World) :
    Calls Tryz.prog 106 #[.string s, .int .i32 r] w fun e w' => e = .returned (.int .i64 (if r < 128 then Lib.indexByte s.data.toList r.toNat.toUInt8 else -1)) ∧ Below w.heap.size w w' := by
  by_cases h1 : r < 128
  · rw [if_pos h1]
    exact (Tryz.strings_IndexRune_ascii s r w h0 h1).mono fun e w' ⟨he, hw⟩ => ⟨he, hw ▸ Below.refl _ _⟩
  · rw [if_neg h1]
    by_cases h2 : r = 65533
    · subst h2
      exact IndexRune_error s hs w
    · cases hv : Lib.validRune r
      · exact (IndexRune_bad s r (by omega) h2 hv w).mono fun e w' ⟨he, hw⟩ => ⟨he, hw ▸ Below.refl _ _⟩
      · exact (IndexRune_good s hs hz r (by omega) h2 hv w).mono fun e w' ⟨he, n, hw⟩ => ⟨he, by rw [hw]; exact ⟨rfl, rfl, rfl, Nat.le_refl _, fun _ _ => rfl⟩⟩
end Go.Proofs.YtbkbhlbfkfnljaaGreatDoor.W1
/- word.natural reads digits as 'natL' says. -/
set_option linter.unusedVariables false
set_option linter.unusedSimpArgs false
namespace Go.Proofs.YtbkbhlbfkfnljaaGreatDoor.W1
open Go Go.RowKit

/-- The digits of a base. -/
def tab (b : Nat) : ByteArray := strOf (([48, 49, 50, 51, 52, 53, 54, 55, 56, 57, 65, 66, 67, 68, 69, 70] : List UInt8).take b)
def natRes (base : Nat) (l : List UInt8) : Int × Bool := match natL base l 0 with | some n => ((n : Int), true) | none => (0, false)
theorem natRes_none {base : Nat} {l : List UInt8} (h : natL base l 0 = none) : (natRes base l).1 = 0 ∧ (natRes base l).2 = false := by unfold natRes; rw [h]; exact ⟨rfl, rfl⟩
theorem natRes_some {base n : Nat} {l : List UInt8} (h : natL base l 0 = some n) : (natRes base l).1 = (n : Int) ∧ (natRes base l).2 = true := by unfold natRes; rw [h]; exact ⟨rfl, rfl⟩
theorem drop_at (s : ByteArray) (k : Nat) (h : k < s.size) : s.data.toList.drop k = s[k] :: s.data.toList.drop (k + 1) := by
  have : k < s.data.toList.length := by simpa using h
  rw [List.drop_eq_getElem_cons this]
  rfl
theorem drop_all (s : ByteArray) (k : Nat) (h : ¬ k < s.size) : s.data.toList.drop k = [] := List.drop_eq_nil_of_le (by simpa using h)
theorem dval_high {base : Nat} (c : UInt8) (h : 128 ≤ c.toNat) : dval base c = none := by
  unfold dval
  rw [if_neg (by omega), if_neg (by omega)]
theorem IndexRune_high (s : ByteArray) (hs : asciiS s) (hz : s.size ≤ 16) (r : Int) (h0 : 128 ≤ r) (w : World) :
    Calls Tryz.prog 106 #[.string s, .int .i32 r] w fun e w' => e = .returned (.int .i64 (-1)) ∧ Below w.heap.size w w' := by
  have h := IndexRune_any s hs hz r (by omega) w
  rw [if_neg (by omega)] at h
  exact h

theorem slice_tab16 (W : World) : (Instr.slice 9 (.string ⟨#[48, 49, 50, 51, 52, 53, 54, 55, 56, 57, 65, 66, 67, 68, 69, 70]⟩) none (some (.int .i64 16)) none).run Tryz.prog W = .ok (.string (tab 16)) W := by
  have hs : (⟨#[48, 49, 50, 51, 52, 53, 54, 55, 56, 57, 65, 66, 67, 68, 69, 70]⟩ : ByteArray).size = 16 := rfl
  rw [run_slice_string_to_if W 9 _ .i64 16 Tryz.underlying9, if_pos ⟨by omega, by rw [hs]; omega⟩]
  congr 2
theorem tab16_ascii : asciiS (tab 16) := by
  have h : ∀ b ∈ (tab 16).data.toList, b.toNat < 128 := by decide
  exact h
theorem tab16_find (c : UInt8) : Lib.indexByte (tab 16).data.toList c = match dval 16 c with | some d => (d : Int) | none => -1 := by
  have h : ∀ i : Fin 256, Lib.indexByte (tab 16).data.toList (UInt8.ofNat i.val) = match dval 16 (UInt8.ofNat i.val) with | some d => (d : Int) | none => -1 := by decide +kernel
  have h1 := h ⟨c.toNat, c.toNat_lt⟩
  simp only [UInt8.ofNat_toNat] at h1
  exact h1
set_option maxHeartbeats 1000000 in
theorem natural16_any (s : ByteArray) (w : World) :
    Calls Tryz.prog 95 #[.string s, .int .i64 16] w fun e w' => e = .returned (.tuple #[.int .i64 (natRes 16 s.data.toList).1, .bool (natRes 16 s.data.toList).2]) ∧ Below w.heap.size w w' := by
  have hk0 := World.iter_heap w s 0
  have hb0 : Below w.heap.size w (w.iter s 0) := (Below.refl _ _).alloc (Nat.le_refl _) _
  have htab := slice_tab16
  go_enter Tryz.func95, Tryz.ntmps95
  go_wp2
  go_loopw [4, 7, 8] (fun x _ _ wr => ∃ pos n : Nat, pos ≤ s.size ∧ n ≤ 68719476735 ∧ x = .int .i64 n ∧ Hid (natL 16 s.data.toList 0 = natL 16 (s.data.toList.drop pos) n) ∧ wr.heap[w.heap.size]? = some (.stringIter s pos) ∧ Below w.heap.size w wr) (fun _ _ _ wr => s.size - wr.iterPos w.heap.size)
  case atStart => exact ⟨0, 0, Nat.zero_le _, by omega, rfl, Lib.hid rfl, hk0, hb0⟩
  case round =>
    obtain ⟨pos, n, hps, hnb, rfl, HN, hk, hnx⟩ := hrel
    clear hk0 hb0
    have hmu : wr.iterPos w.heap.size = pos := by simp [World.iterPos, hk]
    have Hm := Lib.hid hmu
    clear hmu
    by_cases hp : pos < s.size
    · have hdrop := drop_at s pos hp
      rw [hdrop] at HN
      clear hdrop
      by_cases h128 : (s[pos]'hp).toNat < 128
      · have hnext : ∀ ty, (Instr.next (.pointer (some ⟨w.heap.size, 0, none⟩)) true ty).run Tryz.prog wr = _ := fun ty => Lib.run_next_ascii_at wr w.heap.size s pos ty hk hp h128
        have hk1 := Lib.iterAt_heap wr w.heap.size s pos (pos + 1) hk
        have hnx1 : Below w.heap.size w (wr.iterAt w.heap.size s (pos + 1)) := Lib.below_iterAt hnx (by omega) s (pos + 1)
        generalize wr.iterAt w.heap.size s (pos + 1) = W1 at hnext hk1 hnx1
        have hmu2 : W1.iterPos w.heap.size = pos + 1 := by simp [World.iterPos, hk1]
        have Hm2 := Lib.hid hmu2
        clear hmu2 hk hnx
        generalize (s[pos]'hp) = c at *
        have C := Tryz.strings_IndexRune_ascii (tab 16) ((c.toNat : Nat) : Int)
        have hf := tab16_find c
        have hcc : ((c.toNat : Int)).toNat.toUInt8 = c := by simp
        rw [hcc, hf] at C
        clear hcc hf
        generalize hq : c.toNat = q at *
        clear hq
        cases hd : dval 16 c with
        | none =>
          rw [hd] at C
          have hfin : natL 16 s.data.toList 0 = none := by rw [HN.out, natL_cons, hd]
          have Hf := Lib.hid (natRes_none hfin)
          have CC := Lib.hid C
          clear hd hfin C
          go_wp2_with (go_at_call 106; refine (CC.out _ (by omega) (by omega)).mono ?_; rintro e w' ⟨rfl, rfl⟩)
          go_ret2
          exact ⟨ret_ib Hf.out.1.symm Hf.out.2.symm, hnx1⟩
        | some d =>
          rw [hd] at C
          have hdl := dval_lt (by decide) hd
          by_cases hbig : 4294967295 < n
          · have hfin : natL 16 s.data.toList 0 = none := by rw [HN.out, natL_cons, hd]; simp only [if_pos hbig]
            have Hf := Lib.hid (natRes_none hfin)
            have CC := Lib.hid C
            clear hd hfin C
            go_wp2_with (go_at_call 106; refine (CC.out _ (by omega) (by omega)).mono ?_; rintro e w' ⟨rfl, rfl⟩)
            go_ret2
            exact ⟨ret_ib Hf.out.1.symm Hf.out.2.symm, hnx1⟩
          · have hfin : natL 16 s.data.toList 0 = natL 16 (s.data.toList.drop (pos + 1)) (n * 16 + d) := by rw [HN.out, natL_cons, hd]; simp only [if_neg hbig]
            have Hf := Lib.hid hfin
            have CC := Lib.hid C
            have hcast : ((n * 16 + d : Nat) : Int) = (n : Int) * 16 + d := by push_cast; rfl
            have Hc := Lib.hid hcast
            clear hd hfin C hcast HN
            go_wp2_with (go_at_call 106; refine (CC.out _ (by omega) (by omega)).mono ?_; rintro e w' ⟨rfl, rfl⟩)
            go_roundw
            case rel => exact ⟨pos + 1, n * 16 + d, by omega, by omega, by rw [Hc.out], Hf, hk1, hnx1⟩
            case measure =>
              rw [Hm.out, Hm2.out]
              omega
      · have hnext : ∀ ty, (Instr.next (.pointer (some ⟨w.heap.size, 0, none⟩)) true ty).run Tryz.prog wr = _ := fun ty => Lib.run_next_any_at wr w.heap.size s pos ty hk hp
        have hnx1 : Below w.heap.size w (wr.iterAt w.heap.size s (pos + (Utf8.decode s pos).2)) := Lib.below_iterAt hnx (by omega) s _
        generalize wr.iterAt w.heap.size s (pos + (Utf8.decode s pos).2) = W1 at hnext hnx1
        have hr := (decode_high s pos hp (by omega)).1
        have hr2 := decode_le s pos
        generalize (Utf8.decode s pos).1 = r at *
        clear hk hnx
        have hd : dval 16 (s[pos]'hp) = none := dval_high _ (by omega)
        generalize (s[pos]'hp) = c at *
        have hfin : natL 16 s.data.toList 0 = none := by rw [HN.out, natL_cons, hd]
        have Hf := Lib.hid (natRes_none hfin)
        have C := Lib.hid (IndexRune_high (tab 16) tab16_ascii (by decide) (r : Int) (by omega))
        clear hd hfin HN
        go_wp2_with (go_at_call 106; refine (C.out _).mono ?_; rintro e w' ⟨rfl, hb1⟩)
        go_ret2
        exact ⟨ret_ib Hf.out.1.symm Hf.out.2.symm, hnx1.trans (hb1.mono hnx1.size)⟩
    · have hnext : ∀ ty, (Instr.next (.pointer (some ⟨w.heap.size, 0, none⟩)) true ty).run Tryz.prog wr = _ := fun ty => Lib.run_next_end_at wr w.heap.size s pos ty hk hp
      have hfin : natL 16 s.data.toList 0 = some n := by rw [HN.out, drop_all s pos hp]; rfl
      have Hf := Lib.hid (natRes_some hfin)
      clear hfin HN
      go_wp2
      go_ret2
      exact ⟨ret_ib Hf.out.1.symm Hf.out.2.symm, hnx⟩

theorem slice_tab10 (W : World) : (Instr.slice 9 (.string ⟨#[48, 49, 50, 51, 52, 53, 54, 55, 56, 57, 65, 66, 67, 68, 69, 70]⟩) none (some (.int .i64 10)) none).run Tryz.prog W = .ok (.string (tab 10)) W := by
  have hs : (⟨#[48, 49, 50, 51, 52, 53, 54, 55, 56, 57, 65, 66, 67, 68, 69, 70]⟩ : ByteArray).size = 16 := rfl
  rw [run_slice_string_to_if W 9 _ .i64 10 Tryz.underlying9, if_pos ⟨by omega, by rw [hs]; omega⟩]
  congr 2
theorem tab10_ascii : asciiS (tab 10) := by
  have h : ∀ b ∈ (tab 10).data.toList, b.toNat < 128 := by decide
  exact h
theorem tab10_find (c : UInt8) : Lib.indexByte (tab 10).data.toList c = match dval 10 c with | some d => (d : Int) | none => -1 := by
  have h : ∀ i : Fin 256, Lib.indexByte (tab 10).data.toList (UInt8.ofNat i.val) = match dval 10 (UInt8.ofNat i.val) with | some d => (d : Int) | none => -1 := by decide +kernel
  have h1 := h ⟨c.toNat, c.toNat_lt⟩
  simp only [UInt8.ofNat_toNat] at h1
  exact h1
set_option maxHeartbeats 1000000 in
theorem natural10_any (s : ByteArray) (w : World) :
    Calls Tryz.prog 95 #[.string s, .int .i64 10] w fun e w' => e = .returned (.tuple #[.int .i64 (natRes 10 s.data.toList).1, .bool (natRes 10 s.data.toList).2]) ∧ Below w.heap.size w w' := by
  have hk0 := World.iter_heap w s 0
  have hb0 : Below w.heap.size w (w.iter s 0) := (Below.refl _ _).alloc (Nat.le_refl _) _
  have htab := slice_tab10
  go_enter Tryz.func95, Tryz.ntmps95
  go_wp2
  go_loopw [4, 7, 8] (fun x _ _ wr => ∃ pos n : Nat, pos ≤ s.size ∧ n ≤ 68719476735 ∧ x = .int .i64 n ∧ Hid (natL 10 s.data.toList 0 = natL 10 (s.data.toList.drop pos) n) ∧ wr.heap[w.heap.size]? = some (.stringIter s pos) ∧ Below w.heap.size w wr) (fun _ _ _ wr => s.size - wr.iterPos w.heap.size)
  case atStart => exact ⟨0, 0, Nat.zero_le _, by omega, rfl, Lib.hid rfl, hk0, hb0⟩
  case round =>
    obtain ⟨pos, n, hps, hnb, rfl, HN, hk, hnx⟩ := hrel
    clear hk0 hb0
    have hmu : wr.iterPos w.heap.size = pos := by simp [World.iterPos, hk]
    have Hm := Lib.hid hmu
    clear hmu
    by_cases hp : pos < s.size
    · have hdrop := drop_at s pos hp
      rw [hdrop] at HN
      clear hdrop
      by_cases h128 : (s[pos]'hp).toNat < 128
      · have hnext : ∀ ty, (Instr.next (.pointer (some ⟨w.heap.size, 0, none⟩)) true ty).run Tryz.prog wr = _ := fun ty => Lib.run_next_ascii_at wr w.heap.size s pos ty hk hp h128
        have hk1 := Lib.iterAt_heap wr w.heap.size s pos (pos + 1) hk
        have hnx1 : Below w.heap.size w (wr.iterAt w.heap.size s (pos + 1)) := Lib.below_iterAt hnx (by omega) s (pos + 1)
        generalize wr.iterAt w.heap.size s (pos + 1) = W1 at hnext hk1 hnx1
        have hmu2 : W1.iterPos w.heap.size = pos + 1 := by simp [World.iterPos, hk1]
        have Hm2 := Lib.hid hmu2
        clear hmu2 hk hnx
        generalize (s[pos]'hp) = c at *
        have C := Tryz.strings_IndexRune_ascii (tab 10) ((c.toNat : Nat) : Int)
        have hf := tab10_find c
        have hcc : ((c.toNat : Int)).toNat.toUInt8 = c := by simp
        rw [hcc, hf] at C
        clear hcc hf
        generalize hq : c.toNat = q at *
        clear hq
        cases hd : dval 10 c with
        | none =>
          rw [hd] at C
          have hfin : natL 10 s.data.toList 0 = none := by rw [HN.out, natL_cons, hd]
          have Hf := Lib.hid (natRes_none hfin)
          have CC := Lib.hid C
          clear hd hfin C
          go_wp2_with (go_at_call 106; refine (CC.out _ (by omega) (by omega)).mono ?_; rintro e w' ⟨rfl, rfl⟩)
          go_ret2
          exact ⟨ret_ib Hf.out.1.symm Hf.out.2.symm, hnx1⟩
        | some d =>
          rw [hd] at C
          have hdl := dval_lt (by decide) hd
          by_cases hbig : 4294967295 < n
          · have hfin : natL 10 s.data.toList 0 = none := by rw [HN.out, natL_cons, hd]; simp only [if_pos hbig]
            have Hf := Lib.hid (natRes_none hfin)
            have CC := Lib.hid C
            clear hd hfin C
            go_wp2_with (go_at_call 106; refine (CC.out _ (by omega) (by omega)).mono ?_; rintro e w' ⟨rfl, rfl⟩)
            go_ret2
            exact ⟨ret_ib Hf.out.1.symm Hf.out.2.symm, hnx1⟩
          · have hfin : natL 10 s.data.toList 0 = natL 10 (s.data.toList.drop (pos + 1)) (n * 10 + d) := by rw [HN.out, natL_cons, hd]; simp only [if_neg hbig]
            have Hf := Lib.hid hfin
            have CC := Lib.hid C
            have hcast : ((n * 10 + d : Nat) : Int) = (n : Int) * 10 + d := by push_cast; rfl
            have Hc := Lib.hid hcast
            clear hd hfin C hcast HN
            go_wp2_with (go_at_call 106; refine (CC.out _ (by omega) (by omega)).mono ?_; rintro e w' ⟨rfl, rfl⟩)
            go_roundw
            case rel => exact ⟨pos + 1, n * 10 + d, by omega, by omega, by rw [Hc.out], Hf, hk1, hnx1⟩
            case measure =>
              rw [Hm.out, Hm2.out]
              omega
      · have hnext : ∀ ty, (Instr.next (.pointer (some ⟨w.heap.size, 0, none⟩)) true ty).run Tryz.prog wr = _ := fun ty => Lib.run_next_any_at wr w.heap.size s pos ty hk hp
        have hnx1 : Below w.heap.size w (wr.iterAt w.heap.size s (pos + (Utf8.decode s pos).2)) := Lib.below_iterAt hnx (by omega) s _
        generalize wr.iterAt w.heap.size s (pos + (Utf8.decode s pos).2) = W1 at hnext hnx1
        have hr := (decode_high s pos hp (by omega)).1
        have hr2 := decode_le s pos
        generalize (Utf8.decode s pos).1 = r at *
        clear hk hnx
        have hd : dval 10 (s[pos]'hp) = none := dval_high _ (by omega)
        generalize (s[pos]'hp) = c at *
        have hfin : natL 10 s.data.toList 0 = none := by rw [HN.out, natL_cons, hd]
        have Hf := Lib.hid (natRes_none hfin)
        have C := Lib.hid (IndexRune_high (tab 10) tab10_ascii (by decide) (r : Int) (by omega))
        clear hd hfin HN
        go_wp2_with (go_at_call 106; refine (C.out _).mono ?_; rintro e w' ⟨rfl, hb1⟩)
        go_ret2
        exact ⟨ret_ib Hf.out.1.symm Hf.out.2.symm, hnx1.trans (hb1.mono hnx1.size)⟩
    · have hnext : ∀ ty, (Instr.next (.pointer (some ⟨w.heap.size, 0, none⟩)) true ty).run Tryz.prog wr = _ := fun ty => Lib.run_next_end_at wr w.heap.size s pos ty hk hp
      have hfin : natL 10 s.data.toList 0 = some n := by rw [HN.out, drop_all s pos hp]; rfl
      have Hf := Lib.hid (natRes_some hfin)
      clear hfin HN
      go_wp2
      go_ret2
      exact ⟨ret_ib Hf.out.1.symm Hf.out.2.symm, hnx⟩
end Go.Proofs.YtbkbhlbfkfnljaaGreatDoor.W1
/- word.value takes a text for what 'guessC' says. -/
set_option linter.unusedVariables false
set_option linter.unusedSimpArgs false
namespace Go.Proofs.YtbkbhlbfkfnljaaGreatDoor.W1
open Go Go.RowKit

theorem trim_hit (c : UInt8) (ds : List UInt8) : Lib.trimPrefix (c :: ds) [c] = ds ∧ Lib.hasPrefix (c :: ds) [c] = true := by
  have h : Lib.hasPrefix (c :: ds) [c] = true := by simp [Lib.hasPrefix, List.isPrefixOf]
  exact ⟨by unfold Lib.trimPrefix; rw [h]; rfl, h⟩
theorem trim_miss (c : UInt8) (l : List UInt8) (hl : l.head? ≠ some c) : Lib.trimPrefix l [c] = l ∧ Lib.hasPrefix l [c] = false := by
  have h : Lib.hasPrefix l [c] = false := by
    unfold Lib.hasPrefix
    cases l with
    | nil => rfl
    | cons d ds =>
      have : c ≠ d := fun e => hl (by rw [e]; rfl)
      simp [List.isPrefixOf, this]
  exact ⟨by unfold Lib.trimPrefix; rw [h]; rfl, h⟩
theorem natL_le {base : Nat} (hb : base = 10 ∨ base = 16) : ∀ (l : List UInt8) (n : Nat) {m : Nat}, n ≤ 68719476735 → natL base l n = some m → m ≤ 68719476735
  | [], n, m, hn, h => by injection h with h; omega
  | c :: cs, n, m, hn, h => by
    rw [natL_cons] at h
    cases hd : dval base c with
    | none => rw [hd] at h; cases h
    | some d =>
      rw [hd] at h
      have := dval_lt hb hd
      by_cases hbig : 4294967295 < n
      · simp [hbig] at h
      · simp only [if_neg hbig] at h
        exact natL_le hb cs _ (by rcases hb with rfl | rfl <;> omega) h
theorem natRes_bd {base : Nat} (hb : base = 10 ∨ base = 16) (l : List UInt8) : 0 ≤ (natRes base l).1 ∧ (natRes base l).1 ≤ 68719476735 := by
  unfold natRes
  cases h : natL base l 0 with
  | none => exact ⟨by simp, by simp⟩
  | some n => have := natL_le hb l 0 (by omega) h; simp only; omega
/-- What word.value returns. -/
def valueRes (l : List UInt8) : Int × Bool × Bool := match l with
  | 35 :: ds => ((natRes 16 ds).1, true, (natRes 16 ds).2)
  | 45 :: ds => (-(natRes 10 ds).1, false, (natRes 10 ds).2)
  | l => ((natRes 10 l).1, false, (natRes 10 l).2)
theorem valueRes_other (l : List UInt8) (h1 : l.head? ≠ some 35) (h2 : l.head? ≠ some 45) : valueRes l = ((natRes 10 l).1, false, (natRes 10 l).2) := by
  unfold valueRes
  split
  · exact absurd rfl h1
  · exact absurd rfl h2
  · rfl
theorem ret_3 {a b : Int} {p q r s : Bool} (h : a = b) (h1 : p = q) (h2 : r = s) : Ending.returned (.tuple #[.int .i64 a, .bool p, .bool r]) = .returned (.tuple #[.int .i64 b, .bool q, .bool s]) := by rw [h, h1, h2]
theorem strOf_data (l : List UInt8) : (strOf l).data.toList = l := by simp [strOf]
set_option maxHeartbeats 400000 in
theorem value_any (s : ByteArray) (w : World) :
    Calls Tryz.prog 80 #[.string s] w fun e w' => e = .returned (.tuple #[.int .i64 (valueRes s.data.toList).1, .bool (valueRes s.data.toList).2.1, .bool (valueRes s.data.toList).2.2]) ∧ Below w.heap.size w w' := by
  have c1 := fun W => Tryz.strings_CutPrefix s ⟨#[35]⟩ W
  have c2 := fun W => Tryz.strings_CutPrefix s ⟨#[45]⟩ W
  by_cases h35 : s.data.toList.head? = some 35
  · obtain ⟨ds, hds⟩ : ∃ ds, s.data.toList = 35 :: ds := List.head?_eq_some_iff.1 h35
    rw [hds, (trim_hit 35 ds).1, (trim_hit 35 ds).2] at c1
    have hv : valueRes s.data.toList = ((natRes 16 ds).1, true, (natRes 16 ds).2) := by rw [hds]; rfl
    have C := natural16_any (strOf ds)
    rw [strOf_data] at C
    have CC := Lib.hid C
    have C1 := Lib.hid c1
    have HV := Lib.hid hv
    clear hv C c1 c2 hds h35
    go_enter Tryz.func80, Tryz.ntmps80
    go_wp2_with fail
    refine (C1.out _).mono ?_
    rintro e w' ⟨rfl, rfl⟩
    go_wp2_with fail
    refine (CC.out _).mono ?_
    rintro e w1 ⟨rfl, hb1⟩
    go_wp2
    go_ret3
    exact ⟨ret_3 (by rw [HV.out]) (by rw [HV.out]) (by rw [HV.out]), hb1⟩
  · rw [(trim_miss 35 _ h35).1, (trim_miss 35 _ h35).2] at c1
    by_cases h45 : s.data.toList.head? = some 45
    · obtain ⟨ds, hds⟩ : ∃ ds, s.data.toList = 45 :: ds := List.head?_eq_some_iff.1 h45
      rw [hds, (trim_hit 45 ds).1, (trim_hit 45 ds).2] at c2
      have hv : valueRes s.data.toList = (-(natRes 10 ds).1, false, (natRes 10 ds).2) := by rw [hds]; rfl
      have C := natural10_any (strOf ds)
      rw [strOf_data] at C
      obtain ⟨b0, b1⟩ := natRes_bd (base := 10) (by decide) ds
      have CC := Lib.hid C
      have C1 := Lib.hid c1
      have C2 := Lib.hid c2
      have HV := Lib.hid hv
      clear hv C c1 c2 hds h35 h45
      go_enter Tryz.func80, Tryz.ntmps80
      go_wp2_with fail
      refine (C1.out _).mono ?_
      rintro e w' ⟨rfl, rfl⟩
      go_wp2_with fail
      refine (C2.out _).mono ?_
      rintro e w' ⟨rfl, rfl⟩
      go_wp2_with fail
      refine (CC.out _).mono ?_
      rintro e w1 ⟨rfl, hb1⟩
      go_wp2
      go_ret3
      exact ⟨ret_3 (by rw [HV.out]) (by rw [HV.out]) (by rw [HV.out]), hb1⟩
    · rw [(trim_miss 45 _ h45).1, (trim_miss 45 _ h45).2] at c2
      have hv := valueRes_other _ h35 h45
      have C := natural10_any (strOf s.data.toList)
      rw [strOf_data] at C
      have CC := Lib.hid C
      have C1 := Lib.hid c1
      have C2 := Lib.hid c2
      have HV := Lib.hid hv
      clear hv C c1 c2 h35 h45
      go_enter Tryz.func80, Tryz.ntmps80
      go_wp2_with fail
      refine (C1.out _).mono ?_
      rintro e w' ⟨rfl, rfl⟩
      go_wp2_with fail
      refine (C2.out _).mono ?_
      rintro e w' ⟨rfl, rfl⟩
      go_wp2_with fail
      refine (CC.out _).mono ?_
      rintro e w1 ⟨rfl, hb1⟩
      go_wp2
      go_ret3
      exact ⟨ret_3 (by rw [HV.out]) (by rw [HV.out]) (by rw [HV.out]), hb1⟩
end Go.Proofs.YtbkbhlbfkfnljaaGreatDoor.W1
