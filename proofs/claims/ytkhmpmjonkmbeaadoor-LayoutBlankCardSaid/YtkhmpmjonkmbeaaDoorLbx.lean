/- The library's functions, at strings of bytes. -/
import Derived.Test.YtkhmpmjonkmbeaaDoorKit
import Derived.Test.YtkhmpmjonkmbeaaDoorPln
import Derived.Test.YtkhmpmjonkmbeaaDoorShelf
set_option linter.unusedVariables false
set_option linter.unusedSimpArgs false
namespace Go.Proofs.YtkhmpmjonkmbeaaDoor
open Go Go.RowKit L7

/-- The library's one variable that is read holds some number. -/
def MaxIs (w : World) : Prop := ∃ m : Int, w.cell? ⟨0, 0, none⟩ = some (.int .i64 m)
theorem MaxIs.below {w w' : World} (h : MaxIs w) (b : Below w.heap.size w w') : MaxIs w' := by
  obtain ⟨m, hm⟩ := h
  exact ⟨m, (b.cell (g_lt hm)).trans hm⟩
theorem cIndexByte (l : Bs) (c : UInt8) (w : World) : Calls Tryd.prog 68 #[.string (strOf l), .int .u8 (c.toNat : Int)] w fun e w' => e = .returned (.int .i64 (Lib.indexByte l c)) ∧ w = w' :=
  (Tryd.strings_IndexByte (strOf l) (c.toNat : Int) w).mono fun e w' h => by
    have e1 : ((c.toNat : Int)).toNat.toUInt8 = c := by simp
    rw [h.1, data_strOf, e1]
    exact ⟨rfl, h.2.symm⟩
theorem cTrimR (l : Bs) (hl : l.length ≤ 1000000) (w : World) : Calls Tryd.prog 84 #[.string (strOf l), .string ⟨#[32]⟩] w fun e w' => e = .returned (.string (strOf (trimR l))) ∧ w = w' :=
  (Tryd.strings_TrimRight_one (strOf l) 32 (by decide) w (by rw [size_strOf]; omega)).mono fun e w' h => by
    rw [h.1, data_strOf]
    exact ⟨rfl, h.2.symm⟩
theorem cTrimL (l : Bs) (w : World) : Calls Tryd.prog 85 #[.string (strOf l), .string ⟨#[32]⟩] w fun e w' => e = .returned (.string (strOf (l.drop (indL l)))) ∧ w = w' :=
  (Tryd.strings_TrimLeft_one (strOf l) 32 (by decide) w).mono fun e w' h => by
    rw [h.1, data_strOf, ← trim_left]
    exact ⟨rfl, h.2.symm⟩
theorem cTrim (l : Bs) (hl : l.length ≤ maxLen) (w : World) : Calls Tryd.prog 57 #[.string (strOf l), .string ⟨#[32]⟩] w fun e w' => e = .returned (.string (strOf (Lib.trimB l 32))) ∧ Below w.heap.size w w' :=
  (Tryd.strings_Trim_one (strOf l) 32 (by decide) w (by rw [size_strOf]; unfold maxLen at hl; omega)).mono fun e w' h => by
    rw [h.1, data_strOf]
    refine ⟨rfl, ?_⟩
    rcases h.2 with rfl | rfl
    · exact b0 _
    · exact bdrew (b0 w) 1
theorem cCut (l : Bs) (hl : l.length ≤ 1000000) (w : World) (hm : MaxIs w) : Calls Tryd.prog 83 #[.string (strOf l), .string ⟨#[45, 45]⟩] w fun e w' => ∃ X b, e = .returned (.tuple #[.string (strOf (bare l)), .string X, .bool b]) ∧ Below w.heap.size w w' := by
  obtain ⟨m, hm⟩ := hm
  refine (Tryd.strings_Cut (strOf l) (strOf dd) m w (by rw [size_strOf]; omega) hm).mono fun e w' h => ?_
  rw [data_strOf, data_strOf] at h
  obtain ⟨h1, n, rfl⟩ := h
  rw [h1]
  refine ⟨strOf (Lib.cut l dd).2.1, (Lib.cut l dd).2.2, ?_, bdrew (b0 w) n⟩
  rw [← cut_dd]
  rfl
theorem cContains2 (l : Bs) (hl : l.length ≤ 4000000000) (w : World) (hm : MaxIs w) : Calls Tryd.prog 24 #[.string (strOf l), .string ⟨#[45, 45]⟩] w fun e w' => e = .returned (.bool (!noDD l)) ∧ w = w' := by
  obtain ⟨m, hm⟩ := hm
  refine (Tryd.strings_Contains (strOf l) (strOf dd) m w (by rw [size_strOf]; omega) hm).mono fun e w' h => ?_
  rw [data_strOf, data_strOf, contains_dd] at h
  exact ⟨h.1, h.2.symm⟩
theorem cContains1 (c : UInt8) (w : World) : Calls Tryd.prog 24 #[.string ⟨#[44, 59, 40, 91, 43, 45, 42, 47, 92, 61, 60, 62, 126, 38]⟩, .string ⟨#[c]⟩] w fun e w' => e = .returned (.bool (isC c)) ∧ w = w' :=
  (Tryd.strings_Contains_one (strOf cs) c w).mono fun e w' h => by
    rw [data_strOf, isC_index] at h
    exact ⟨h.1, h.2.symm⟩
theorem cIndex1 (l : Bs) (w : World) : Calls Tryd.prog 46 #[.string (strOf l), .string ⟨#[10]⟩] w fun e w' => e = .returned (.int .i64 (Lib.indexByte l 10)) ∧ w' = w :=
  (Tryd.strings_Index_one (strOf l) 10 w).mono fun e w' h => by
    rw [data_strOf] at h
    exact h
theorem cCount (l : Bs) (w : World) : Calls Tryd.prog 20 #[.string (strOf l), .string ⟨#[10]⟩] w fun e w' => e = .returned (.int .i64 (((lnsOf l).length : Int) - 1)) ∧ w = w' :=
  (Tryd.strings_Count_one (strOf l) 10 w).mono fun e w' h => by
    rw [data_strOf] at h
    refine ⟨?_, h.2.symm⟩
    rw [h.1]
    have := count_lns l
    congr 2
    omega
theorem cRepeat (l : Bs) (n : Nat) (hn : n ≤ 100000) (hl : l.length ≤ 100) (w : World) : Calls Tryd.prog 22 #[.string (strOf l), .int .i64 (n : Int)] w fun e w' => e = .returned (.string (strOf (Lib.repeatL l n))) ∧ Below w.heap.size w w' :=
  (Tryd.strings_Repeat (strOf l) n w (by omega) (by
    rw [size_strOf]
    have : l.length * n ≤ 100 * 100000 := Nat.mul_le_mul hl hn
    omega)).mono fun e w' h => by
    rw [data_strOf] at h
    exact ⟨h.1, h.2⟩
theorem cRepeatSp (n : Nat) (hn : n ≤ 100000) (w : World) : Calls Tryd.prog 22 #[.string ⟨#[32]⟩, .int .i64 (n : Int)] w fun e w' => e = .returned (.string (strOf (List.replicate n 32))) ∧ Below w.heap.size w w' :=
  (cRepeat [32] n hn (by decide) w).mono fun e w' h => by rw [repeat_sp] at h; exact h
theorem map_data (ss : List Bs) : (ss.map strOf).map (·.data.toList) = ss := by
  rw [List.map_map]
  conv => rhs; rw [← List.map_id ss]
  exact List.map_congr_left fun l _ => data_strOf l
theorem cJoin {w : World} {B n c : Nat} {A : Option Addr} {ss : List Bs} (h : OwnS w B A n c ss) (b : UInt8) (hn : n ≤ 1000000) (hlen : (Lib.join ss [b]).length ≤ 140737488355328) :
    Calls Tryd.prog 23 #[.slice A n c, .string ⟨#[b]⟩] w fun e w' => e = .returned (.string (strOf (Lib.join ss [b]))) ∧ Below w.heap.size w w' := by
  have hl := h.len
  rcases h.2 with ⟨hv, h0⟩ | ⟨g, cap, cur, hv, hB, hh, hnc, hm, hcs, hx⟩
  · injection hv with h1 h2 h3
    subst h1 h3
    obtain rfl : ss = [] := List.eq_nil_of_length_eq_zero (by omega)
    subst h0
    refine (Tryd.strings_Join_none none 0 ⟨#[b]⟩ w).mono fun e w' h => ?_
    rw [h.1, h.2]
    exact ⟨rfl, b0 w⟩
  · injection hv with h1 h2 h3
    subst h1 h3
    have hcell : ∀ (j : Nat) (x : ByteArray), (ss.map strOf)[j]? = some x → w.cell? ⟨g, 0 + j, none⟩ = some (.string x) := by
      intro j x hj
      have hj2 : j < ss.length := by
        have := (List.getElem?_eq_some_iff.1 hj).1
        rwa [List.length_map] at this
      have hc := World.ownsRow.cells h rfl j _ (sC_at hj2)
      rw [add_plain] at hc
      rw [hc]
      rw [List.getElem?_map, List.getElem?_eq_getElem hj2] at hj
      injection hj with hj
      rw [← hj]
      simp [hj2]
    have hJ := Tryd.strings_Join g 0 c (ss.map strOf) ⟨#[b]⟩ w hcell (Array.getElem?_eq_some_iff.1 hh).1 (by rw [List.length_map]; omega) (by rw [List.length_map]; omega) (by rw [map_data]; exact hlen)
    rw [List.length_map, hl, map_data] at hJ
    exact hJ
end Go.Proofs.YtkhmpmjonkmbeaaDoor
