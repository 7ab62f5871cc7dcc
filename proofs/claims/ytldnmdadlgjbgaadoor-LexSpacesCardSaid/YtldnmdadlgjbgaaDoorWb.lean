/- The reference of layer 1 reads a text as 'readR' says. -/
import Derived.Test.YtldnmdadlgjbgaaDoorWa
import Derived.Lib.IndexBytes
set_option linter.unusedVariables false
set_option linter.unusedSimpArgs false
namespace Go.Proofs.YtldnmdadlgjbgaaDoor.W1
open Go Go.RowKit

theorem redW_eq (n : Int) : wrap32 n = redW n := by unfold wrap32 redW; rfl
theorem slice_one (s : ByteArray) (h : 1 ≤ s.size) (W : World) : (Instr.slice 9 (.string s) (some (.int .i64 1)) none none).run Tryd.prog W = .ok (.string (s.extract 1 s.size)) W := by
  rw [run_slice_string_from_if W 9 s .i64 1 Tryd.underlying9, if_pos ⟨by omega, by omega⟩]
  rfl
theorem eq_strOf (l : List UInt8) (s : ByteArray) : ((strOf l).toList == s.toList) = decide (l = s.data.toList) := by
  rw [Lib.toList_data, Lib.toList_data]
  show (l == s.data.toList) = _
  by_cases h : l = s.data.toList <;> simp [h]
theorem ret_ii {j k : IntKind} {a b c d : Int} (h : a = b) (h' : c = d) : Ending.returned (.tuple #[.int j a, .int k c]) = .returned (.tuple #[.int j b, .int k d]) := by rw [h, h']
/-- What the first byte and the rest are. -/
theorem first_of (s : ByteArray) (h : 1 ≤ s.size) : s.data.toList = s[0] :: s.data.toList.drop 1 := by
  have : 0 < s.data.toList.length := by
    have hl : s.data.toList.length = s.size := by simp
    omega
  conv => lhs; rw [← List.drop_zero (l := s.data.toList), List.drop_eq_getElem_cons this]
  rfl
theorem val_bd {base : Nat} (hb : base = 10 ∨ base = 16) (l : List UInt8) (h : l.length ≤ 11) : (0 : Int) ≤ (valL base l 0 : Nat) ∧ ((valL base l 0 : Nat) : Int) ≤ 17592186044416 :=
  ⟨by omega, by have := valL_bd hb l h; omega⟩
/-- The last step: the text of the word that was guessed is compared. -/
theorem keep_end (l : List UInt8) (s : ByteArray) (hs : s.data.toList = l) (n : Int) (hex : Bool) : (((strOf (textL (wrap32 n) hex)).toList == s.toList) = true ∧ keepT l (redW n) hex = (wrap32 n, 0)) ∨ (((strOf (textL (wrap32 n) hex)).toList == s.toList) = false ∧ keepT l (redW n) hex = (0, 5)) := by
  rw [eq_strOf, hs]
  unfold keepT
  rw [redW_eq]
  by_cases h : textL (redW n) hex = l
  · exact .inl ⟨by simp [h], if_pos h⟩
  · exact .inr ⟨by simp [h], if_neg h⟩
end Go.Proofs.YtldnmdadlgjbgaaDoor.W1
