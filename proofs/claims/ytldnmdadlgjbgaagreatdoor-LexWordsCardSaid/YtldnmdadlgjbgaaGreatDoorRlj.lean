/- The reference: how a byte is shown. -/
import Derived.Test.YtldnmdadlgjbgaaGreatDoorRla
import Derived.Laws.BytesString
set_option linter.unusedVariables false
set_option linter.unusedSimpArgs false
namespace Go.Proofs.YtldnmdadlgjbgaaGreatDoor
open Go Go.RowKit L8

def hexs : Bs := [48, 49, 50, 51, 52, 53, 54, 55, 56, 57, 65, 66, 67, 68, 69, 70]
theorem hex_cut : ∀ a : Fin 16, (hexs.take (a.val + 1)).drop a.val = [hexDg a.val] := by decide
theorem cut_mid32 (l : Bs) (i k : Nat) (h1 : i ≤ k) (h : k ≤ l.length) (W : World) : (Instr.slice 9 (.string (strOf l)) (some (.int .i32 (i : Int))) (some (.int .i32 (k : Int))) none).run Tryz.prog W = .ok (.string (strOf ((l.take k).drop i))) W := by
  have hs := size_strOf l
  rw [run_slice_string W 9 _ .i32 .i32 (i : Int) (k : Int) Tryz.underlying9 (by omega) (by omega) (by rw [hs]; omega), Int.toNat_natCast, Int.toNat_natCast]
  congr 2
  apply ByteArray.ext
  apply Array.ext'
  have h2 : (strOf l).data.toList = l := rfl
  simp only [ByteArray.data_extract, Array.toList_extract, h2]
  simp [strOf, List.extract, List.drop_take]
theorem hex_at (a : Nat) (h : a < 16) (W : World) : (Instr.slice 9 (.string ⟨#[48, 49, 50, 51, 52, 53, 54, 55, 56, 57, 65, 66, 67, 68, 69, 70]⟩) (some (.int .i32 (a : Int))) (some (.int .i32 ((a : Int) + 1))) none).run Tryz.prog W = .ok (.string (strOf [hexDg a])) W := by
  have := cut_mid32 hexs a (a + 1) (by omega) (by have : hexs.length = 16 := rfl; omega) W
  rw [hex_cut ⟨a, h⟩] at this
  exact this
theorem shown_hex {v : Nat} (h1 : v ≠ 13 ∧ v ≠ 10 ∧ v ≠ 9 ∧ v ≠ 39 ∧ v ≠ 42) (h2 : ¬ (32 ≤ v ∧ v ≤ 126)) : shown (v : Int) = [42, 35, hexDg (v / 16), hexDg (v % 16)] := by
  unfold shown
  rw [if_neg (by omega), if_neg (by omega), if_neg (by omega), if_neg (by omega), if_neg (by omega), if_neg (by omega)]
  rfl
theorem shown_self {v : Nat} (h1 : v ≠ 13 ∧ v ≠ 10 ∧ v ≠ 9 ∧ v ≠ 39 ∧ v ≠ 42) (h2 : 32 ≤ v ∧ v ≤ 126) : shown (v : Int) = [UInt8.ofNat v] := by
  unfold shown
  rw [if_neg (by omega), if_neg (by omega), if_neg (by omega), if_neg (by omega), if_neg (by omega), if_pos (by omega)]
  rfl
theorem conv_one (v : Nat) (w : World) : (convert 55 9 (.slice (some ⟨w.heap.size, 0, none⟩) 1 1)).run Tryz.prog (w.alloc (.cells #[.int .u8 (v : Int)] 5)) = .ok (.string (strOf [UInt8.ofNat v])) (w.alloc (.cells #[.int .u8 (v : Int)] 5)) := by
  have hc : (w.alloc (.cells #[.int .u8 (v : Int)] 5)).cell? ⟨w.heap.size, 0, none⟩ = some (.int .u8 (v : Int)) := ((boxS_new w 5 #[.int .u8 (v : Int)]).cell 0).trans rfl
  have hl := run_loadCells_list (P := Tryz.prog) (w.alloc (.cells #[.int .u8 (v : Int)] 5)) ⟨w.heap.size, 0, none⟩ [.int .u8 (v : Int)] (by
    intro j u hj
    match j, hj with
    | 0, hj => injection hj with hj; subst hj; exact hc)
  rw [run_convert_bytes_string _ 55 9 5 _ _ _ Tryz.underlying55 Tryz.underlying5 Tryz.underlying9, run_bytesToString _ _ 1 1 [(v : Int)] hl]
  congr 2
set_option maxRecDepth 100000 in
set_option maxHeartbeats 8000000 in
theorem Rshown_any (v : Nat) (hv : v < 256) (w : World) : Calls Tryz.prog 64 #[.int .i32 (v : Int)] w fun e w' => e = .returned (.string (strOf (shown (v : Int)))) ∧ Below w.heap.size w w' := by
  by_cases h13 : v = 13
  · subst h13
    go_enter Tryz.func64, Tryz.ntmps64
    go_wp2
    go_ret
    exact ⟨rfl, b0 w⟩
  by_cases h10 : v = 10
  · subst h10
    go_enter Tryz.func64, Tryz.ntmps64
    go_wp2
    go_ret
    exact ⟨rfl, b0 w⟩
  by_cases h9 : v = 9
  · subst h9
    go_enter Tryz.func64, Tryz.ntmps64
    go_wp2
    go_ret
    exact ⟨rfl, b0 w⟩
  by_cases h39 : v = 39
  · subst h39
    go_enter Tryz.func64, Tryz.ntmps64
    go_wp2
    go_ret
    exact ⟨rfl, b0 w⟩
  by_cases h42 : v = 42
  · subst h42
    go_enter Tryz.func64, Tryz.ntmps64
    go_wp2
    go_ret
    exact ⟨rfl, b0 w⟩
  have e1 : ((v : Int) == 13) = false := by simp; omega
  have e2 : ((v : Int) == 10) = false := by simp; omega
  have e3 : ((v : Int) == 9) = false := by simp; omega
  have e4 : ((v : Int) == 39) = false := by simp; omega
  have e5 : ((v : Int) == 42) = false := by simp; omega
  have v0 : (0 : Int) ≤ (v : Int) := by omega
  have v1 : (v : Int) < 256 := by omega
  by_cases hp : 32 ≤ v ∧ v ≤ 126
  · rw [shown_self ⟨h13, h10, h9, h39, h42⟩ hp]
    have g1 : (32 : Int) ≤ (v : Int) := by omega
    have g2 : (v : Int) ≤ 126 := by omega
    have hb : ((UInt8.ofNat v).toNat : Int) = (v : Int) := by
      rw [UInt8.toNat_ofNat']; omega
    have HB := Lib.hid (bal (b0 w) (.cells #[.int .u8 (v : Int)] 5))
    have hcv := conv_one v w
    clear h13 h10 h9 h39 h42 hp hb
    generalize strOf [UInt8.ofNat v] = S at *
    go_enter Tryz.func64, Tryz.ntmps64
    go_wp2
    go_ret
    exact ⟨rfl, HB.out⟩
  · rw [shown_hex ⟨h13, h10, h9, h39, h42⟩ hp]
    have hp2 : ((32 : Int) ≤ (v : Int) ∧ ¬ (v : Int) ≤ 126) ∨ ¬ (32 : Int) ≤ (v : Int) := by omega
    have d1 : (v : Int).tdiv 16 = ((v / 16 : Nat) : Int) := by rw [Int.tdiv_eq_ediv_of_nonneg (by omega)]; simp
    have d2 : (v : Int).tmod 16 = ((v % 16 : Nat) : Int) := by rw [Int.tmod_eq_emod_of_nonneg (by omega)]; simp
    have x1 := hex_at (v / 16) (by omega)
    have x2 := hex_at (v % 16) (by omega)
    have hd1 : v / 16 < 16 := by omega
    have hd2 : v % 16 < 16 := by omega
    generalize v / 16 = a at *
    generalize v % 16 = b at *
    have a0 : (a : Int) < 16 := by omega
    have b0' : (b : Int) < 16 := by omega
    have w1 : IntKind.i32.wrap ((a : Int) + 1) = (a : Int) + 1 := by unfold IntKind.wrap; simp [IntKind.bits, IntKind.signed]; omega
    have w2 : IntKind.i32.wrap ((b : Int) + 1) = (b : Int) + 1 := by unfold IntKind.wrap; simp [IntKind.bits, IntKind.signed]; omega
    have w3 : IntKind.i32.wrap (a : Int) = (a : Int) := by unfold IntKind.wrap; simp [IntKind.bits, IntKind.signed]; omega
    have c1 : Op.stringOp .add ⟨#[42, 35]⟩ (strOf [hexDg a]) = pure (.string (strOf ([42, 35] ++ [hexDg a]))) := cat_str [42, 35] [hexDg a] (by simp)
    have c2 : Op.stringOp .add (strOf ([42, 35] ++ [hexDg a])) (strOf [hexDg b]) = pure (.string (strOf [42, 35, hexDg a, hexDg b])) := cat_str ([42, 35] ++ [hexDg a]) [hexDg b] (by simp)
    have HD := Lib.hid (fun nq => bdrew (b0 w) nq)
    clear h13 h10 h9 h39 h42 hp
    generalize strOf ([42, 35] ++ [hexDg a]) = S1 at *
    generalize strOf [42, 35, hexDg a, hexDg b] = S2 at *
    generalize strOf [hexDg a] = S3 at *
    generalize strOf [hexDg b] = S4 at *
    rcases hp2 with ⟨g1, g2⟩ | g1
    all_goals
      go_enter Tryz.func64, Tryz.ntmps64
      go_wp2
      go_quiet (fail)
      have HE := Lib.hid (HD.out nq)
      generalize w.drewN nq = V at *
      go_wp2
      go_ret
      exact ⟨rfl, HE.out⟩
end Go.Proofs.YtldnmdadlgjbgaaGreatDoor
