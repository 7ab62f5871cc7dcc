/- Contracts of the texts of the reference of layer 1: its digits are those of the number. -/
import Derived.Test.YtldnmdadlgjbgaaDoorWl
import Derived.Deep.QuietTactic
import Derived.BigQuiet
import Derived.Deep.RegionWith
import Derived.IntWalk
set_option linter.unusedVariables false
set_option linter.unusedSimpArgs false
namespace Go.Proofs.YtldnmdadlgjbgaaDoor.W1
open Go Go.RowKit

/-- A string of bytes. -/
def strOf (l : List UInt8) : ByteArray := ⟨l.toArray⟩
theorem strOf_append (a b : List UInt8) : strOf (a ++ b) = strOf a ++ strOf b := by
  apply ByteArray.ext
  simp [strOf]
theorem strOf_cons (a : UInt8) (b : List UInt8) : strOf (a :: b) = strOf [a] ++ strOf b := strOf_append [a] b
theorem strOf_size (l : List UInt8) : (strOf l).size = l.length := by simp [strOf, ByteArray.size]
theorem cat_str (a b : List UInt8) (h : a.length + b.length ≤ 1000000) : Op.stringOp .add (strOf a) (strOf b) = pure (.string (strOf (a ++ b))) := by
  unfold Op.stringOp
  simp only [strOf_size]
  rw [if_neg (by simp [IntKind.max, IntKind.signed, IntKind.bits]; omega), strOf_append]
theorem lowDigs_length : ∀ base n t, (lowDigs base n t).length = n
  | _, 0, _ => rfl
  | base, n + 1, t => by unfold lowDigs; rw [List.length_append, lowDigs_length base n]; rfl
theorem slice_dig (d : Nat) (h : d < 16) : ∀ W : World, (Instr.slice 9 (.string ⟨#[48, 49, 50, 51, 52, 53, 54, 55, 56, 57, 65, 66, 67, 68, 69, 70]⟩) (some (.int .i64 (d : Int))) (some (.int .i64 ((d : Int) + 1))) none).run Tryd.prog W = .ok (.string (strOf [hexDg d])) W := by
  intro W
  have hs : (⟨#[48, 49, 50, 51, 52, 53, 54, 55, 56, 57, 65, 66, 67, 68, 69, 70]⟩ : ByteArray).size = 16 := rfl
  rw [run_slice_string W 9 _ .i64 .i64 (d : Int) ((d : Int) + 1) Tryd.underlying9 (by omega) (by omega) (by rw [hs]; omega)]
  have ht : ∀ d : Fin 16, ((⟨#[48, 49, 50, 51, 52, 53, 54, 55, 56, 57, 65, 66, 67, 68, 69, 70]⟩ : ByteArray).extract d.val (d.val + 1)).data.toList = [hexDg d.val] := by decide
  have h1 := ht ⟨d, h⟩
  have e : ((d : Int) + 1).toNat = d + 1 := by omega
  rw [Int.toNat_natCast, e]
  congr 2
  apply ByteArray.ext
  rw [← Array.toList_inj, h1]
  rfl

theorem uns_cast (v : Int) : ((uns v : Nat) : Int) = v % 4294967296 := by unfold uns; omega
theorem dec_bd (v : Int) (hv : isW v) : v.natAbs ≤ 4294967296 := by unfold isW at hv; omega
theorem decDigits_le (t : Nat) (h : t ≤ 4294967296) : (Lib.decDigits t).length ≤ 11 := by rw [Lib.decDigits_length]; exact nDigits_le _ (by omega)
theorem cat_cons (c : UInt8) (b : List UInt8) (h : b.length ≤ 100000) : Op.stringOp .add ⟨#[c]⟩ (strOf b) = pure (.string (strOf (c :: b))) := cat_str [c] b (by simp; omega)
end Go.Proofs.YtldnmdadlgjbgaaDoor.W1
