/- The number that digits spell, as the reference of layer 1 reads it. -/
import Derived.Test.YtlockfoidhndeaaDoorDigits
namespace Go.Proofs.YtlockfoidhndeaaDoor
open Go Go.RowKit

theorem take_snoc (s : ByteArray) (k : Nat) (h : k < s.size) : s.data.toList.take (k + 1) = s.data.toList.take k ++ [s[k]] := by
  rw [List.take_succ_eq_append_getElem (by simpa using h)]; rfl
theorem index_str (s : ByteArray) (k : Nat) (h : k < s.size) (W : World) : (Instr.index 9 (.string s) (.int .i64 (k : Int))).run Tryd.prog W = .ok (.int .u8 (s[k].toNat : Int)) W := by
  rw [run_index_string W 9 s .i64 (k : Int) Tryd.underlying9, dif_pos ⟨by omega, by omega⟩]
  rfl
theorem table_dig : ∀ d : Fin 16, (⟨#[48, 49, 50, 51, 52, 53, 54, 55, 56, 57, 65, 66, 67, 68, 69, 70]⟩ : ByteArray)[d.val]'d.2 = hexDg d.val := by decide
theorem index_dig (j : Nat) (h : j < 16) (W : World) : (Instr.index 9 (.string ⟨#[48, 49, 50, 51, 52, 53, 54, 55, 56, 57, 65, 66, 67, 68, 69, 70]⟩) (.int .i64 (j : Int))).run Tryd.prog W = .ok (.int .u8 ((hexDg j).toNat : Int)) W := by
  have hs : (⟨#[48, 49, 50, 51, 52, 53, 54, 55, 56, 57, 65, 66, 67, 68, 69, 70]⟩ : ByteArray).size = 16 := rfl
  rw [index_str _ j (by rw [hs]; exact h)]
  rw [table_dig ⟨j, h⟩]

set_option maxHeartbeats 1000000 in
theorem RValue16_any (s : ByteArray) (hs : s.size ≤ 11) (w : World) :
    Calls Tryd.prog 58 #[.string s, .int .i64 16] w fun e w' => e = .returned (.int .i64 (valL 16 s.data.toList 0 : Nat)) ∧ ∃ n, w' = w.drewN n := by
  go_enter Tryd.func58, Tryd.ntmps58
  go_wp2
  go_loopw [5, 6] (fun x i wr => ∃ k : Nat, k ≤ s.size ∧ i = .int .i64 k ∧ x = .int .i64 (valL 16 (s.data.toList.take k) 0 : Nat) ∧ ∃ n, wr = w.drewN n) (fun _ i _ => s.size - (intOf i).toNat)
  case atStart => exact ⟨0, Nat.zero_le _, rfl, rfl, 0, rfl⟩
  case round =>
    obtain ⟨k, hk, rfl, rfl, n, rfl⟩ := hrel
    by_cases hlt : k < s.size
    · have hbd := valL_bd (base := 16) (by decide) (s.data.toList.take k) (by simp; omega)
      have htake := Lib.hid (valL_snoc 16 (s.data.toList.take k) s[k] 0)
      have hsn := Lib.hid (take_snoc s k hlt)
      have hidx := fun W => index_str s k hlt W
      generalize hv : valL 16 (s.data.toList.take k) 0 = v at *
      have Hv := Lib.hid hv
      clear hv
      generalize hc : s[k] = c at *
      have Hc := Lib.hid hc
      clear hc
      have H0 := Lib.hid (stepTo_zero 16 c v)
      have HA := Lib.hid (stepTo_all (base := 16) (by decide) c v)
      generalize hq : c.toNat = q at hidx
      have Hq := Lib.hid hq
      clear hq
      obtain ⟨wo, hwo⟩ : ∃ wo : World, wo = w.drewN n := ⟨_, rfl⟩
      go_wp2
      rw [← hwo]
      go_loopw [5, 7] (fun x d wr => ∃ j : Nat, j ≤ 16 ∧ d = .int .i64 j ∧ x = .int .i64 (stepTo 16 c v j : Nat) ∧ ∃ m, wr = w.drewN m) (fun _ d _ => 16 - (intOf d).toNat)
      case atStart => exact ⟨0, Nat.zero_le _, rfl, by rw [H0.out], n, hwo⟩
      case round =>
        clear hwo
        obtain ⟨j, hj, rfl, rfl, m, rfl⟩ := hrel
        by_cases hjl : j < 16
        · have hidj := fun W => index_dig j (by omega) W
          by_cases hit : dval 16 c = some j
          · obtain ⟨h1, h2⟩ := stepTo_hit c v hit
            have h3 := (hexDg_dval (by decide) hjl c).2 hit
            rw [Hq.out] at h3
            rw [h3] at hidj
            rw [h1]
            have H2 := Lib.hid h2
            clear h1 h2 h3 hit
            have hm : ((v * 16 + j : Nat) : Int) = 16 * (v : Int) + j := by push_cast; rw [Int.mul_comm]
            have Hm := Lib.hid hm
            clear hm
            go_wp2
            go_quiet (fail)
            clear hidj hidx
            go_wp2
            go_roundw
            case rel => exact ⟨j + 1, by omega, by go_num, by rw [H2.out, Hm.out], _, rfl⟩
            case measure => simp [intOf]; omega
          · have h1 := stepTo_miss c v hit
            have h3 : ¬ (hexDg j).toNat = q := fun e => hit ((hexDg_dval (by decide) hjl c).1 (e.trans Hq.out.symm))
            generalize (hexDg j).toNat = p at *
            have h4 : ((p : Int) == (q : Int)) = false := by simp; omega
            have h5 : (p == q) = false := by simp [h3]
            have H1 := Lib.hid h1
            clear h1 hit
            go_wp2
            go_quiet (fail)
            clear hidj hidx
            go_wp2
            go_roundw
            case rel => exact ⟨j + 1, by omega, by go_num, by rw [H1.out], _, rfl⟩
            case measure => simp [intOf]; omega
        · have hje : j = 16 := by omega
          have hfin : valL 16 (s.data.toList.take (k + 1)) 0 = stepTo 16 c v j := by rw [hsn.out, htake.out, hje, HA.out]
          have Hf := Lib.hid hfin
          clear hfin hje
          go_wp2
          go_roundw
          case rel => exact ⟨k + 1, by omega, by go_num, by rw [Hf.out], _, rfl⟩
          case measure => simp [intOf]; omega
    · have hke : s.data.toList.take k = s.data.toList := List.take_of_length_le (by simp; omega)
      have HK := Lib.hid hke
      clear hke
      go_wp2
      go_ret
      exact ⟨ret_i (by rw [HK.out]), n, rfl⟩

set_option maxHeartbeats 1000000 in
theorem RValue10_any (s : ByteArray) (hs : s.size ≤ 11) (w : World) :
    Calls Tryd.prog 58 #[.string s, .int .i64 10] w fun e w' => e = .returned (.int .i64 (valL 10 s.data.toList 0 : Nat)) ∧ ∃ n, w' = w.drewN n := by
  go_enter Tryd.func58, Tryd.ntmps58
  go_wp2
  go_loopw [5, 6] (fun x i wr => ∃ k : Nat, k ≤ s.size ∧ i = .int .i64 k ∧ x = .int .i64 (valL 10 (s.data.toList.take k) 0 : Nat) ∧ ∃ n, wr = w.drewN n) (fun _ i _ => s.size - (intOf i).toNat)
  case atStart => exact ⟨0, Nat.zero_le _, rfl, rfl, 0, rfl⟩
  case round =>
    obtain ⟨k, hk, rfl, rfl, n, rfl⟩ := hrel
    by_cases hlt : k < s.size
    · have hbd := valL_bd (base := 10) (by decide) (s.data.toList.take k) (by simp; omega)
      have htake := Lib.hid (valL_snoc 10 (s.data.toList.take k) s[k] 0)
      have hsn := Lib.hid (take_snoc s k hlt)
      have hidx := fun W => index_str s k hlt W
      generalize hv : valL 10 (s.data.toList.take k) 0 = v at *
      have Hv := Lib.hid hv
      clear hv
      generalize hc : s[k] = c at *
      have Hc := Lib.hid hc
      clear hc
      have H0 := Lib.hid (stepTo_zero 10 c v)
      have HA := Lib.hid (stepTo_all (base := 10) (by decide) c v)
      generalize hq : c.toNat = q at hidx
      have Hq := Lib.hid hq
      clear hq
      obtain ⟨wo, hwo⟩ : ∃ wo : World, wo = w.drewN n := ⟨_, rfl⟩
      go_wp2
      rw [← hwo]
      go_loopw [5, 7] (fun x d wr => ∃ j : Nat, j ≤ 10 ∧ d = .int .i64 j ∧ x = .int .i64 (stepTo 10 c v j : Nat) ∧ ∃ m, wr = w.drewN m) (fun _ d _ => 10 - (intOf d).toNat)
      case atStart => exact ⟨0, Nat.zero_le _, rfl, by rw [H0.out], n, hwo⟩
      case round =>
        clear hwo
        obtain ⟨j, hj, rfl, rfl, m, rfl⟩ := hrel
        by_cases hjl : j < 10
        · have hidj := fun W => index_dig j (by omega) W
          by_cases hit : dval 10 c = some j
          · obtain ⟨h1, h2⟩ := stepTo_hit c v hit
            have h3 := (hexDg_dval (by decide) hjl c).2 hit
            rw [Hq.out] at h3
            rw [h3] at hidj
            rw [h1]
            have H2 := Lib.hid h2
            clear h1 h2 h3 hit
            have hm : ((v * 10 + j : Nat) : Int) = 10 * (v : Int) + j := by push_cast; rw [Int.mul_comm]
            have Hm := Lib.hid hm
            clear hm
            go_wp2
            go_quiet (fail)
            clear hidj hidx
            go_wp2
            go_roundw
            case rel => exact ⟨j + 1, by omega, by go_num, by rw [H2.out, Hm.out], _, rfl⟩
            case measure => simp [intOf]; omega
          · have h1 := stepTo_miss c v hit
            have h3 : ¬ (hexDg j).toNat = q := fun e => hit ((hexDg_dval (by decide) hjl c).1 (e.trans Hq.out.symm))
            generalize (hexDg j).toNat = p at *
            have h4 : ((p : Int) == (q : Int)) = false := by simp; omega
            have h5 : (p == q) = false := by simp [h3]
            have H1 := Lib.hid h1
            clear h1 hit
            go_wp2
            go_quiet (fail)
            clear hidj hidx
            go_wp2
            go_roundw
            case rel => exact ⟨j + 1, by omega, by go_num, by rw [H1.out], _, rfl⟩
            case measure => simp [intOf]; omega
        · have hje : j = 10 := by omega
          have hfin : valL 10 (s.data.toList.take (k + 1)) 0 = stepTo 10 c v j := by rw [hsn.out, htake.out, hje, HA.out]
          have Hf := Lib.hid hfin
          clear hfin hje
          go_wp2
          go_roundw
          case rel => exact ⟨k + 1, by omega, by go_num, by rw [Hf.out], _, rfl⟩
          case measure => simp [intOf]; omega
    · have hke : s.data.toList.take k = s.data.toList := List.take_of_length_le (by simp; omega)
      have HK := Lib.hid hke
      clear hke
      go_wp2
      go_ret
      exact ⟨ret_i (by rw [HK.out]), n, rfl⟩
end Go.Proofs.YtlockfoidhndeaaDoor
