/- The reference: how a byte is shown. -/
import Derived.Test.YtldnmdadlgjbgaaDoorRla
import Derived.Laws.BytesString
set_option linter.unusedVariables false
set_option linter.unusedSimpArgs false
namespace Go.Proofs.YtldnmdadlgjbgaaDoor
open Go Go.RowKit L8

def hexs : Bs := [48, 49, 50, 51, 52, 53, 54, 55, 56, 57, 65, 66, 67, 68, 69, 70]
theorem hex_cut : ∀ a : Fin 16, (hexs.take (a.val + 1)).drop a.val = [hexDg a.val] := by decide
theorem cut_mid32 (l : Bs) (i k : Nat) (h1 : i ≤ k) (h : k ≤ l.length) (W : World) : (Instr.slice 9 (.string (strOf l)) (some (.int .i32 (i : Int))) (some (.int .i32 (k : Int))) none).run Tryd.prog W = .ok (.string (strOf ((l.take k).drop i))) W := by
  have hs := size_strOf l
  rw [run_slice_string W 9 _ .i32 .i32 (i : Int) (k : Int) Tryd.underlying9 (by omega) (by omega) (by rw [hs]; omega), Int.toNat_natCast, Int.toNat_natCast]
  congr 2
  apply ByteArray.ext
  apply Array.ext'
  have h2 : (strOf l).data.toList = l := rfl
  simp only [ByteArray.data_extract, Array.toList_extract, h2]
  simp [strOf, List.extract, List.drop_take]
theorem hex_at (a : Nat) (h : a < 16) (W : World) : (Instr.slice 9 (.string ⟨#[48, 49, 50, 51, 52, 53, 54, 55, 56, 57, 65, 66, 67, 68, 69, 70]⟩) (some (.int .i32 (a : Int))) (some (.int .i32 ((a : Int) + 1))) none).run Tryd.prog W = .ok (.string (strOf [hexDg a])) W := by
  have := cut_mid32 hexs a (a + 1) (by omega) (by have : hexs.length = 16 := rfl; omega) W
  rw [hex_cut ⟨a, h⟩] at this
  exact this
theorem shown_hex {v : Nat} (h1 : v ≠ 13 ∧ v ≠ 10 ∧ v ≠ 9 ∧ v ≠ 39 ∧ v ≠ 42) (h2 : ¬ (32 ≤ v ∧ v ≤ 126)) : shown (v : Int) = [42, 35, hexDg (v / 16), hexDg (v % 16)] := by
  unfold shown
  rw [if_neg (by omega), if_neg (by omega), if_neg (by omega), if_neg (by omega), if_neg (by omega), if_neg (by omega)]
  rfl
theorem shown_self {v : Nat} (h1 : v ≠ 13 ∧ v ≠ 10 ∧ v ≠ 9 ∧ v ≠ 39 ∧ v ≠ 42) (h2 : 32 ≤ v ∧ v ≤ 126) : shown (v : Int) = [UInt8.ofNat v] := by
  unfold shown
  rw [if_neg (by omega), if_neg (by omega), if_neg (by omega), if_neg (by omega), if_neg (by omega), if_pos (by omega)]
  rfl
theorem conv_one (v : Nat) (w : World) : (convert 48 9 (.slice (some ⟨w.heap.size, 0, none⟩) 1 1)).run Tryd.prog (w.alloc (.cells #[.int .u8 (v : Int)] 5)) = .ok (.string (strOf [UInt8.ofNat v])) (w.alloc (.cells #[.int .u8 (v : Int)] 5)) := by
  have hc : (w.alloc (.cells #[.int .u8 (v : Int)] 5)).cell? ⟨w.heap.size, 0, none⟩ = some (.int .u8 (v : Int)) := ((boxS_new w 5 #[.int .u8 (v : Int)]).cell 0).trans rfl
  have hl := run_loadCells_list (P := Tryd.prog) (w.alloc (.cells #[.int .u8 (v : Int)] 5)) ⟨w.heap.size, 0, none⟩ [.int .u8 (v : Int)] (by
    intro j u hj
    match j, hj with
    | 0, hj => injection hj with hj; subst hj; exact hc)
  rw [run_convert_bytes_string _ 48 9 5 _ _ _ Tryd.underlying48 Tryd.underlying5 Tryd.underlying9, run_bytesToString _ _ 1 1 [(v : Int)] hl]
  congr 2
end Go.Proofs.YtldnmdadlgjbgaaDoor
