/- The reference's source text of rows. -/
import Derived.Test.YtkhmpmjonkmbeaaDoorRfe
set_option linter.unusedVariables false
set_option linter.unusedSimpArgs false
namespace Go.Proofs.YtkhmpmjonkmbeaaDoor
open Go Go.RowKit L7

theorem RSpaces_q (n : Nat) (hn : n ≤ 1000) (w : World) : Calls Tryd.prog 28 #[.int .i64 (n : Int)] w fun e w' => e = .returned (.string (strOf (List.replicate n 32))) ∧ w' = w := (RSpaces_any n hn w).mono fun e w' h => ⟨h.1, h.2.symm⟩
theorem source_no {rs : List Rw} (h : may rs = false) : source rs = ([], 2) := by unfold source; rw [h]; rfl
theorem source_long {rs : List Rw} (h : may rs = true) (h2 : ¬ (srcOf rs).length ≤ 65536) : source rs = ([], 3) := by unfold source; rw [if_pos h, if_neg h2]
theorem source_ok {rs : List Rw} (h : may rs = true) (h2 : (srcOf rs).length ≤ 65536) : source rs = (srcOf rs, 0) := by unfold source; rw [if_pos h, if_pos h2]
set_option maxRecDepth 100000 in
set_option maxHeartbeats 16000000 in
theorem RSource_any {A : Option Addr} {c m : Nat} {rs : List Rw} {w : World} (R : RR w A c rs) (hm : rs.length = m) : Calls Tryd.prog 16 #[.slice A m c] w fun e w' => e = .returned (.tuple #[.string (strOf (source rs).1), .int .i64 (source rs).2]) ∧ Below w.heap.size w w' := by
  have HR := Lib.hid R
  have hmx : m ≤ maxLen := by have := R.le; have := R.mx; omega
  unfold maxLen at hmx
  have HM := Lib.hid hm
  have CM := Lib.hid (RMay_any R hm)
  clear R hm
  cases hmay : may rs with
  | false =>
    rw [hmay] at CM
    have HE := Lib.hid (source_no hmay)
    clear hmay
    go_enter Tryd.func16, Tryd.ntmps16
    go_wp2_with (go_at_call 18; refine CM.out.mono ?_; rintro e w1 ⟨rfl, b1⟩; have B1 := Lib.hid b1; clear b1)
    go_ret2
    rw [HE.out]
    exact ⟨rfl, B1.out⟩
  | true =>
    rw [hmay] at CM
    obtain ⟨hm1, hok, hsz⟩ := may_ok hmay
    have HOK := Lib.hid hok
    have HY := Lib.hid hmay
    have HSn := Lib.hid (fun (k : Nat) (hk : k < m) => src_snoc (l := rs) (k := k) (by have := HM.out; omega))
    have HSl := Lib.hid (fun (k : Nat) (hk : k ≤ m) => Nat.le_trans (Nat.le_of_eq (src_len (l := rs) (k := k) (fun j hj => hok j (by have := HM.out; omega)) (by have := HM.out; omega))) (size_to (l := rs) (k := k) (fun j hj => hok j (by have := HM.out; omega)) (by have := HM.out; omega)))
    have hm2 : m ≤ 2048 := by have := HM.out; omega
    clear hmay hok hsz hm1
    go_enter Tryd.func16, Tryd.ntmps16
    go_wp2_with (go_at_call 18; refine CM.out.mono ?_; rintro e w1 ⟨rfl, b1⟩; have B1 := Lib.hid b1; clear b1)
    go_loopw [4, 5] (fun z i wr => ∃ k : Nat, k ≤ m ∧ i = .int .i64 k ∧ z = .string (strOf (srcOf (rs.take k))) ∧ Hid (Below w.heap.size w wr)) (fun _ i _ => m - (intOf i).toNat)
    case atStart => exact ⟨0, Nat.zero_le _, rfl, rfl, B1⟩
    case round =>
      obtain ⟨k, hk, rfl, rfl, H⟩ := hrel
      have hk0 : (0 : Int) ≤ (k : Int) := by omega
      by_cases hlt : (k : Int) < (m : Int)
      · obtain ⟨ad, rfl, g0, g1, g2⟩ := (HR.out.keep H.out).rd k (by have := HM.out; omega)
        have hS := HSn.out k (by omega)
        have hL := HSl.out k (by omega)
        have hb := ok_bounds (HOK.out k (by have := HM.out; omega))
        change (srcOf (rs.take (k + 1)) = srcOf (rs.take k) ++ List.replicate (2 * (rs.getD k r0).dp.toNat) 32 ++ (rs.getD k r0).tx ++ [10]) at hS
        have hd1 : 0 ≤ (rs.getD k r0).dp := hb.2.2.1
        have hd2 : (rs.getD k r0).dp ≤ 32 := hb.2.2.2.1
        have hd3 : (rs.getD k r0).tx.length ≤ 256 := hb.2.2.2.2.2
        clear hb
        generalize rs.getD k r0 = x at *
        obtain ⟨no, dp, tx⟩ := x
        dsimp only at *
        obtain ⟨d, rfl⟩ := Int.eq_ofNat_of_zero_le hd1
        rw [Int.toNat_natCast] at hS
        have C := Lib.hid (fun W => RSpaces_q (2 * d) (by omega) W)
        have e2 : ((2 * d : Nat) : Int) = 2 * (d : Int) := by omega
        rw [e2] at C
        have s1 : IntKind.i64.wrap (2 * (d : Int)) = 2 * (d : Int) := IntWalk.i64_in _ (by omega)
        have hc1 := cat_str (srcOf (rs.take k)) (List.replicate (2 * d) 32) (by simp; omega)
        have hc2 := cat_str (srcOf (rs.take k) ++ List.replicate (2 * d) 32) tx (by simp; omega)
        have hc3 := cat_str (srcOf (rs.take k) ++ List.replicate (2 * d) 32 ++ tx) [10] (by simp; omega)
        have hc4 : Op.stringOp .add (strOf (srcOf (rs.take k) ++ List.replicate (2 * d) 32 ++ tx)) ⟨#[10]⟩ = pure (.string (strOf (srcOf (rs.take (k + 1))))) := by rw [hS]; exact hc3
        clear hc3 hS hL
        generalize strOf (srcOf (rs.take k) ++ List.replicate (2 * d) 32 ++ tx) = Z3 at *
        generalize strOf (srcOf (rs.take k) ++ List.replicate (2 * d) 32) = Z2 at *
        generalize strOf (List.replicate (2 * d) 32) = Z1 at *
        generalize hz : strOf (srcOf (rs.take (k + 1))) = Z4 at *
        have HZ := Lib.hid hz
        clear hz e2
        generalize strOf (srcOf (rs.take k)) = Z0 at *
        go_wp2
        go_quiet ((go_at_call 28; exact Calls.quiet_of_same (C.out _)))
        have HW := Lib.hid (bdrew H.out nq)
        clear s1 g0 g1 g2 hc1 hc2 hc4
        generalize wr.drewN nq = W at *
        go_wp2
        go_roundw
        case rel => exact ⟨k + 1, by omega, by go_num, by rw [HZ.out], HW⟩
        case measure => simp [intOf]; omega
      · obtain rfl : k = m := by omega
        have ht : rs.take k = rs := List.take_of_length_le (by have := HM.out; omega)
        rw [ht]
        have hsz := size_strOf (srcOf rs)
        by_cases hl : (srcOf rs).length ≤ 65536
        · have HE := Lib.hid (source_ok HY.out hl)
          have hq : ¬ (65536 : Int) < ((srcOf rs).length : Int) := by omega
          clear hl ht
          generalize (srcOf rs).length = q at *
          go_wp2
          go_ret2
          rw [HE.out]
          exact ⟨rfl, H.out⟩
        · have HE := Lib.hid (source_long HY.out hl)
          have hq : (65536 : Int) < ((srcOf rs).length : Int) := by omega
          clear hl ht
          generalize (srcOf rs).length = q at *
          go_wp2
          go_ret2
          rw [HE.out]
          exact ⟨rfl, H.out⟩
end Go.Proofs.YtkhmpmjonkmbeaaDoor
