/- Contracts of the integer functions of the reference of layer 1: each returns what its twin of package word returns, for all words. -/
import Derived.Deep.QuietTactic
import Derived.BigQuiet
import Derived.Deep.RegionWith
import Derived.IntWalk
import Derived.Lib.IndexBytes
import Derived.Test.YtjdjkdgdbdenpaaDoorM01
set_option linter.unusedVariables false
set_option linter.unusedSimpArgs false
namespace Go.Proofs.YtjdjkdgdbdenpaaDoor
open Go Go.RowKit

theorem emod_of_tmod_neg {t : Int} (h : t.tmod 4294967296 < 0) : t.tmod 4294967296 + 4294967296 = t % 4294967296 := by
  have h1 : t = 4294967296 * t.tdiv 4294967296 + t.tmod 4294967296 := (Int.mul_tdiv_add_tmod t 4294967296).symm
  have h2 := Int.lt_tmod_of_pos t (show (0 : Int) < 4294967296 by omega)
  generalize t.tmod 4294967296 = r at *
  generalize t.tdiv 4294967296 = q at *
  omega
theorem emod_of_tmod_nonneg {t : Int} (h : ¬ t.tmod 4294967296 < 0) : t.tmod 4294967296 = t % 4294967296 := by
  have h1 : t = 4294967296 * t.tdiv 4294967296 + t.tmod 4294967296 := (Int.mul_tdiv_add_tmod t 4294967296).symm
  have h2 := Int.tmod_lt_of_pos t (show (0 : Int) < 4294967296 by omega)
  generalize t.tmod 4294967296 = r at *
  generalize t.tdiv 4294967296 = q at *
  omega
theorem tmod_rng (t : Int) : -4294967296 < t.tmod 4294967296 ∧ t.tmod 4294967296 < 4294967296 :=
  ⟨Int.lt_tmod_of_pos t (by omega), Int.tmod_lt_of_pos t (by omega)⟩
/-- A number far from the ends of an int64. -/
def isD (t : Int) : Prop := -4611686018427387904 ≤ t ∧ t ≤ 4611686018427387904
theorem tdiv_same {a b : Int} (h : (a < 0) ↔ (b < 0)) : a.tdiv b = (a.natAbs : Int) / (b.natAbs : Int) := by
  rcases Int.lt_or_le a 0 with ha | ha
  · have hb := h.1 ha
    rw [show (a.natAbs : Int) = -a by omega, show (b.natAbs : Int) = -b by omega, ← Int.tdiv_eq_ediv_of_nonneg (by omega), Int.neg_tdiv, Int.tdiv_neg, Int.neg_neg]
  · have hb : ¬ b < 0 := fun hb => by have := h.2 hb; omega
    rw [show (a.natAbs : Int) = a by omega, show (b.natAbs : Int) = b by omega, ← Int.tdiv_eq_ediv_of_nonneg (by omega)]
theorem tdiv_other {a b : Int} (h : ¬ ((a < 0) ↔ (b < 0))) : a.tdiv b = -((a.natAbs : Int) / (b.natAbs : Int)) := by
  rcases Int.lt_or_le a 0 with ha | ha
  · have hb : ¬ b < 0 := fun hb => h ⟨fun _ => hb, fun _ => ha⟩
    rw [show (a.natAbs : Int) = -a by omega, show (b.natAbs : Int) = b by omega, ← Int.tdiv_eq_ediv_of_nonneg (by omega), Int.neg_tdiv, Int.neg_neg]
  · have hb : b < 0 := by
      rcases Int.lt_or_le b 0 with hb | hb
      · exact hb
      · exact absurd ⟨fun h => by omega, fun h => by omega⟩ h
    rw [show (a.natAbs : Int) = a by omega, show (b.natAbs : Int) = -b by omega, ← Int.tdiv_eq_ediv_of_nonneg (by omega), Int.tdiv_neg, Int.neg_neg]
theorem quo_bd {a b : Int} (ha : isW a) : 0 ≤ (a.natAbs : Int) / (b.natAbs : Int) ∧ (a.natAbs : Int) / (b.natAbs : Int) ≤ 2147483648 := by
  obtain ⟨a0, a1⟩ := ha
  have hm : a.natAbs ≤ 2147483648 := by omega
  have hd : a.natAbs / b.natAbs ≤ a.natAbs := Nat.div_le_self ..
  have hc : ((a.natAbs / b.natAbs : Nat) : Int) = (a.natAbs : Int) / (b.natAbs : Int) := Int.natCast_ediv ..
  rw [← hc]
  generalize a.natAbs / b.natAbs = q at *
  generalize a.natAbs = m at *
  omega
theorem natAbs_mod {a b : Int} : ((a.natAbs : Int) % (b.natAbs : Int)) = ((a.tmod b).natAbs : Int) := by
  rw [Int.natAbs_tmod, ← Int.natCast_emod]
theorem tmod_sign {a b : Int} : (a < 0 → a.tmod b ≤ 0) ∧ (0 ≤ a → 0 ≤ a.tmod b) := by
  refine ⟨fun h => ?_, fun h => Int.tmod_nonneg b h⟩
  have := Int.tmod_nonneg (a := -a) b (by omega)
  rw [Int.neg_tmod] at this
  omega
end Go.Proofs.YtjdjkdgdbdenpaaDoor
/- Contracts of the loops of the reference of layer 1: shifting place by place. -/
namespace Go.Proofs.YtjdjkdgdbdenpaaDoor
open Go Go.RowKit

theorem wrap32_twice (a : Int) (k : Nat) : wrap32 (2 * wrap32 (a * 2 ^ k)) = wrap32 (a * 2 ^ (k + 1)) := by
  rw [Int.pow_succ, ← Int.mul_assoc]
  generalize a * 2 ^ k = x
  unfold wrap32
  omega
theorem half_pow (x : Int) (k : Nat) : x / 2 ^ k / 2 = x / 2 ^ (k + 1) := by
  rw [Int.pow_succ, Int.ediv_ediv_of_nonneg (Int.pow_nonneg (by omega))]
theorem shr_bd (a : Int) (k : Nat) : 0 ≤ a % 4294967296 / 2 ^ k ∧ a % 4294967296 / 2 ^ k ≤ 4294967295 := by
  have h0 : 0 ≤ a % 4294967296 := by omega
  refine ⟨Int.ediv_nonneg h0 (Int.pow_nonneg (by omega)), ?_⟩
  have := Int.ediv_le_self (b := 2 ^ k) h0
  omega
end Go.Proofs.YtjdjkdgdbdenpaaDoor
/- Contracts of the texts of the reference of layer 1: its digits are those of the number. -/
namespace Go.Proofs.YtjdjkdgdbdenpaaDoor
open Go Go.RowKit

/-- A string of bytes. -/
def strOf (l : List UInt8) : ByteArray := ⟨l.toArray⟩
theorem strOf_append (a b : List UInt8) : strOf (a ++ b) = strOf a ++ strOf b := by
  apply ByteArray.ext
  simp [strOf]
theorem strOf_cons (a : UInt8) (b : List UInt8) : strOf (a :: b) = strOf [a] ++ strOf b := strOf_append [a] b
theorem strOf_size (l : List UInt8) : (strOf l).size = l.length := by simp [strOf, ByteArray.size]
theorem cat_str (a b : List UInt8) (h : a.length + b.length ≤ 1000000) : Op.stringOp .add (strOf a) (strOf b) = pure (.string (strOf (a ++ b))) := by
  unfold Op.stringOp
  simp only [strOf_size]
  rw [if_neg (by simp [IntKind.max, IntKind.signed, IntKind.bits]; omega), strOf_append]
theorem lowDigs_length : ∀ base n t, (lowDigs base n t).length = n
  | _, 0, _ => rfl
  | base, n + 1, t => by unfold lowDigs; rw [List.length_append, lowDigs_length base n]; rfl
theorem slice_dig (d : Nat) (h : d < 16) : ∀ W : World, (Instr.slice 9 (.string ⟨#[48, 49, 50, 51, 52, 53, 54, 55, 56, 57, 65, 66, 67, 68, 69, 70]⟩) (some (.int .i64 (d : Int))) (some (.int .i64 ((d : Int) + 1))) none).run Tryd.prog W = .ok (.string (strOf [hexDg d])) W := by
  intro W
  have hs : (⟨#[48, 49, 50, 51, 52, 53, 54, 55, 56, 57, 65, 66, 67, 68, 69, 70]⟩ : ByteArray).size = 16 := rfl
  rw [run_slice_string W 9 _ .i64 .i64 (d : Int) ((d : Int) + 1) Tryd.underlying9 (by omega) (by omega) (by rw [hs]; omega)]
  have ht : ∀ d : Fin 16, ((⟨#[48, 49, 50, 51, 52, 53, 54, 55, 56, 57, 65, 66, 67, 68, 69, 70]⟩ : ByteArray).extract d.val (d.val + 1)).data.toList = [hexDg d.val] := by decide
  have h1 := ht ⟨d, h⟩
  have e : ((d : Int) + 1).toNat = d + 1 := by omega
  rw [Int.toNat_natCast, e]
  congr 2
  apply ByteArray.ext
  rw [← Array.toList_inj, h1]
  rfl

theorem uns_cast (v : Int) : ((uns v : Nat) : Int) = v % 4294967296 := by unfold uns; omega
theorem dec_bd (v : Int) (hv : isW v) : v.natAbs ≤ 4294967296 := by unfold isW at hv; omega
theorem decDigits_le (t : Nat) (h : t ≤ 4294967296) : (Lib.decDigits t).length ≤ 11 := by rw [Lib.decDigits_length]; exact nDigits_le _ (by omega)
theorem cat_cons (c : UInt8) (b : List UInt8) (h : b.length ≤ 100000) : Op.stringOp .add ⟨#[c]⟩ (strOf b) = pure (.string (strOf (c :: b))) := cat_str [c] b (by simp; omega)
end Go.Proofs.YtjdjkdgdbdenpaaDoor
/- The number that digits spell, as the reference of layer 1 reads it. -/
namespace Go.Proofs.YtjdjkdgdbdenpaaDoor
open Go Go.RowKit

theorem take_snoc (s : ByteArray) (k : Nat) (h : k < s.size) : s.data.toList.take (k + 1) = s.data.toList.take k ++ [s[k]] := by
  rw [List.take_succ_eq_append_getElem (by simpa using h)]; rfl
theorem index_str (s : ByteArray) (k : Nat) (h : k < s.size) (W : World) : (Instr.index 9 (.string s) (.int .i64 (k : Int))).run Tryd.prog W = .ok (.int .u8 (s[k].toNat : Int)) W := by
  rw [run_index_string W 9 s .i64 (k : Int) Tryd.underlying9, dif_pos ⟨by omega, by omega⟩]
  rfl
theorem table_dig : ∀ d : Fin 16, (⟨#[48, 49, 50, 51, 52, 53, 54, 55, 56, 57, 65, 66, 67, 68, 69, 70]⟩ : ByteArray)[d.val]'d.2 = hexDg d.val := by decide
theorem index_dig (j : Nat) (h : j < 16) (W : World) : (Instr.index 9 (.string ⟨#[48, 49, 50, 51, 52, 53, 54, 55, 56, 57, 65, 66, 67, 68, 69, 70]⟩) (.int .i64 (j : Int))).run Tryd.prog W = .ok (.int .u8 ((hexDg j).toNat : Int)) W := by
  have hs : (⟨#[48, 49, 50, 51, 52, 53, 54, 55, 56, 57, 65, 66, 67, 68, 69, 70]⟩ : ByteArray).size = 16 := rfl
  rw [index_str _ j (by rw [hs]; exact h)]
  rw [table_dig ⟨j, h⟩]

end Go.Proofs.YtjdjkdgdbdenpaaDoor
/- The reference of layer 1 reads a text as 'readR' says. -/
namespace Go.Proofs.YtjdjkdgdbdenpaaDoor
open Go Go.RowKit

theorem redW_eq (n : Int) : wrap32 n = redW n := by unfold wrap32 redW; rfl
theorem slice_one (s : ByteArray) (h : 1 ≤ s.size) (W : World) : (Instr.slice 9 (.string s) (some (.int .i64 1)) none none).run Tryd.prog W = .ok (.string (s.extract 1 s.size)) W := by
  rw [run_slice_string_from_if W 9 s .i64 1 Tryd.underlying9, if_pos ⟨by omega, by omega⟩]
  rfl
theorem eq_strOf (l : List UInt8) (s : ByteArray) : ((strOf l).toList == s.toList) = decide (l = s.data.toList) := by
  rw [Lib.toList_data, Lib.toList_data]
  show (l == s.data.toList) = _
  by_cases h : l = s.data.toList <;> simp [h]
theorem ret_ii {j k : IntKind} {a b c d : Int} (h : a = b) (h' : c = d) : Ending.returned (.tuple #[.int j a, .int k c]) = .returned (.tuple #[.int j b, .int k d]) := by rw [h, h']
/-- What the first byte and the rest are. -/
theorem first_of (s : ByteArray) (h : 1 ≤ s.size) : s.data.toList = s[0] :: s.data.toList.drop 1 := by
  have : 0 < s.data.toList.length := by
    have hl : s.data.toList.length = s.size := by simp
    omega
  conv => lhs; rw [← List.drop_zero (l := s.data.toList), List.drop_eq_getElem_cons this]
  rfl
theorem val_bd {base : Nat} (hb : base = 10 ∨ base = 16) (l : List UInt8) (h : l.length ≤ 11) : (0 : Int) ≤ (valL base l 0 : Nat) ∧ ((valL base l 0 : Nat) : Int) ≤ 17592186044416 :=
  ⟨by omega, by have := valL_bd hb l h; omega⟩
/-- The last step: the text of the word that was guessed is compared. -/
theorem keep_end (l : List UInt8) (s : ByteArray) (hs : s.data.toList = l) (n : Int) (hex : Bool) : (((strOf (textL (wrap32 n) hex)).toList == s.toList) = true ∧ keepT l (redW n) hex = (wrap32 n, 0)) ∨ (((strOf (textL (wrap32 n) hex)).toList == s.toList) = false ∧ keepT l (redW n) hex = (0, 5)) := by
  rw [eq_strOf, hs]
  unfold keepT
  rw [redW_eq]
  by_cases h : textL (redW n) hex = l
  · exact .inl ⟨by simp [h], if_pos h⟩
  · exact .inr ⟨by simp [h], if_neg h⟩
end Go.Proofs.YtjdjkdgdbdenpaaDoor
