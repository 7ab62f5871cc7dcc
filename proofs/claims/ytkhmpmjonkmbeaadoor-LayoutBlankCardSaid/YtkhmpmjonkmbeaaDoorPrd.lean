/- The program's source text of rows. -/
import Derived.Test.YtkhmpmjonkmbeaaDoorPrc
import Derived.Test.YtkhmpmjonkmbeaaDoorBld
set_option linter.unusedVariables false
set_option linter.unusedSimpArgs false
namespace Go.Proofs.YtkhmpmjonkmbeaaDoor
open Go Go.RowKit L7

theorem psource_no {rs : List Rw} (h : may rs = false) : source rs = ([], 2) := by unfold source; rw [h]; rfl
theorem psource_long {rs : List Rw} (h : may rs = true) (h2 : ¬ (srcOf rs).length ≤ 65536) : source rs = ([], 3) := by unfold source; rw [if_pos h, if_neg h2]
theorem psource_ok {rs : List Rw} (h : may rs = true) (h2 : (srcOf rs).length ≤ 65536) : source rs = (srcOf rs, 0) := by unfold source; rw [if_pos h, if_pos h2]
theorem bld_new (w : World) : BldI w.heap.size w.heap.size [] (w.alloc (.cells #[.pointer none, .slice none 0 0] 50)) := Lib.fresh_isBuilder 50 5 w
set_option maxRecDepth 100000 in
set_option maxHeartbeats 8000000 in
theorem Source_any {A : Option Addr} {c m : Nat} {rs : List Rw} {w : World} (R : RR w A c rs) (hm : rs.length = m) (hx : MaxIs w) : Calls Tryd.prog 15 #[.slice A m c] w fun e w' => e = .returned (.tuple #[.string (strOf (source rs).1), .int .i64 (source rs).2]) ∧ Below w.heap.size w w' := by
  have HR := Lib.hid R
  have hmx : m ≤ maxLen := by have := R.le; have := R.mx; omega
  unfold maxLen at hmx
  have HM := Lib.hid hm
  have CM := Lib.hid (May_any R hm hx)
  clear R hm hx
  cases hmay : may rs with
  | false =>
    rw [hmay] at CM
    have HE := Lib.hid (psource_no hmay)
    clear hmay
    go_enter Tryd.func15, Tryd.ntmps15
    go_wp2_with (go_at_call 17; refine CM.out.mono ?_; rintro e w1 ⟨rfl, b1⟩; have B1 := Lib.hid b1; clear b1)
    go_ret2
    rw [HE.out]
    exact ⟨rfl, B1.out⟩
  | true =>
    rw [hmay] at CM
    obtain ⟨hm1, hok, hsz⟩ := may_ok hmay
    have HOK := Lib.hid hok
    have HY := Lib.hid hmay
    have HSn := Lib.hid (fun (k : Nat) (hk : k < m) => src_snoc (l := rs) (k := k) (by have := HM.out; omega))
    have HSl := Lib.hid (fun (k : Nat) (hk : k ≤ m) => Nat.le_trans (Nat.le_of_eq (src_len (l := rs) (k := k) (fun j hj => hok j (by have := HM.out; omega)) (by have := HM.out; omega))) (size_to (l := rs) (k := k) (fun j hj => hok j (by have := HM.out; omega)) (by have := HM.out; omega)))
    have hm2 : m ≤ 2048 := by have := HM.out; omega
    clear hmay hok hsz hm1
    go_enter Tryd.func15, Tryd.ntmps15
    go_wp2_with (go_at_call 17; refine CM.out.mono ?_; rintro e w1 ⟨rfl, b1⟩; have B1 := Lib.hid b1; clear b1)
    have HN := Lib.hid (bld_new w1)
    go_loopw [12] (fun i wr => ∃ k : Nat, k ≤ m ∧ i = .int .i64 k ∧ Hid (Below w1.heap.size w1 wr ∧ BldI w1.heap.size w1.heap.size (srcOf (rs.take k)) wr)) (fun i _ => m - (intOf i).toNat)
    case atStart => exact ⟨0, Nat.zero_le _, rfl, Lib.hid ⟨bal (b0 w1) _, HN.out⟩⟩
    case round =>
      obtain ⟨k, hk, rfl, H⟩ := hrel
      have hk0 : (0 : Int) ≤ (k : Int) := by omega
      by_cases hlt : (k : Int) < (m : Int)
      · obtain ⟨ad, rfl, g0, g1, g2⟩ := (HR.out.keep (blw B1.out H.out.1)).rd k (by have := HM.out; omega)
        have hS := HSn.out k (by omega)
        have hL := HSl.out k (by omega)
        have hb := ok_bounds (HOK.out k (by have := HM.out; omega))
        change (srcOf (rs.take (k + 1)) = srcOf (rs.take k) ++ List.replicate (2 * (rs.getD k r0).dp.toNat) 32 ++ (rs.getD k r0).tx ++ [10]) at hS
        have hd1 : 0 ≤ (rs.getD k r0).dp := hb.2.2.1
        have hd2 : (rs.getD k r0).dp ≤ 32 := hb.2.2.2.1
        have hd3 : (rs.getD k r0).tx.length ≤ 256 := hb.2.2.2.2.2
        clear hb
        generalize rs.getD k r0 = x at *
        obtain ⟨no, dp, tx⟩ := x
        dsimp only at *
        obtain ⟨d, rfl⟩ := Int.eq_ofNat_of_zero_le hd1
        rw [Int.toNat_natCast] at hS
        have C := Lib.hid (fun W => cRepeatSp (2 * d) (by omega) W)
        have e2 : ((2 * d : Nat) : Int) = 2 * (d : Int) := by omega
        rw [e2] at C
        have HK := Lib.hid (fun (X : World) (b : Below wr.heap.size wr X) => And.intro (blw H.out.1 b) (bldI_keep H.out.2 b))
        have HB := Lib.hid H.out.1.size
        have hlen1 : (srcOf (rs.take k)).length ≤ 321 * 2048 := by omega
        generalize hP : srcOf (rs.take k) = P at *
        have CW1 := Lib.hid (fun (X : World) (b : Below wr.heap.size wr X) => write_any w1.heap.size w1.heap.size P (List.replicate (2 * d) 32) X (HK.out X b).2 (by simp; omega) (HK.out X b).1.size)
        have CW2 := Lib.hid (fun (X : World) (b : Below w1.heap.size w1 X) (h : BldU w1.heap.size w1.heap.size (P ++ List.replicate (2 * d) 32) X) => write_any w1.heap.size w1.heap.size (P ++ List.replicate (2 * d) 32) tx X (Or.inr h) (by simp; omega) b.size)
        have CW3 := Lib.hid (fun (X : World) (b : Below w1.heap.size w1 X) (h : BldU w1.heap.size w1.heap.size (P ++ List.replicate (2 * d) 32 ++ tx) X) => writeByte_any w1.heap.size w1.heap.size (P ++ List.replicate (2 * d) 32 ++ tx) X (Or.inr h) (by simp; omega) b.size)
        have HS := Lib.hid hS
        have bx := Lib.hid (boxS_new wr 38 #[.int .i64 no, .int .i64 (d : Int), .string (strOf tx)])
        have hB0 : w1.heap.size ≤ wr.heap.size := H.out.1.size
        have bV := Lib.hid (bal (b0 wr) (.cells #[.int .i64 no, .int .i64 (d : Int), .string (strOf tx)] 38))
        have hne : w1.heap.size < wr.heap.size := by
          rcases H.out.2 with h | h
          · obtain ⟨_, _, h, _⟩ := h; exact (Array.getElem?_eq_some_iff.1 h).1
          · obtain ⟨_, _, h, _⟩ := h; exact (Array.getElem?_eq_some_iff.1 h).1
        clear hS hL H e2 hP hlen1
        generalize strOf (List.replicate (2 * d) 32) = Z1 at *
        go_wp2_with (first
          | (go_at_call 22; refine (C.out _).mono ?_; rintro e w2 ⟨rfl, b2⟩; have B2 := Lib.hid (blw bV.out b2); have X2 := Lib.hid (bx.out.below b2); clear b2; obtain ⟨⟨x0, y0, z0⟩, _⟩ := box3 X2.out)
          | (go_at_call 25; (with_reducible refine (CW1.out _ B2.out).mono ?_); rintro e w3 ⟨rfl, u3, b3, q3⟩; have B3 := Lib.hid (And.intro ((HK.out _ B2.out).1.trans b3) u3); have X3 := Lib.hid (q3 _ _ _ (by omega) (by decide) X2.out); clear b3 u3 q3 x0 y0 z0; obtain ⟨⟨x0, y0, z0⟩, _⟩ := box3 X3.out)
          | (go_at_call 25; (with_reducible refine (CW2.out _ B3.out.1 B3.out.2).mono ?_); rintro e w4 ⟨rfl, u4, b4, _⟩; have B4 := Lib.hid (And.intro (B3.out.1.trans b4) u4); clear b4 u4 x0 y0 z0)
          | (go_at_call 37; (with_reducible refine (CW3.out _ B4.out.1 B4.out.2).mono ?_); rintro e w5 ⟨rfl, u5, b5, _⟩; have B5 := Lib.hid (And.intro (B4.out.1.trans b5) u5); clear b5 u5))
        go_roundw
        case rel => exact ⟨k + 1, by omega, by go_num, Lib.hid ⟨B5.out.1, by rw [HS.out]; exact Or.inr B5.out.2⟩⟩
        case measure => simp [intOf]; omega
      · obtain rfl : k = m := by omega
        have ht : rs.take k = rs := List.take_of_length_le (by have := HM.out; omega)
        rw [ht] at H
        have CL := Lib.hid (Tryd.Builder_Len w1.heap.size w1.heap.size (Lib.byteCells (srcOf rs)) wr H.out.2)
        rw [Lib.byteCells_length] at CL
        have CS := Lib.hid (Tryd.Builder_String_any w1.heap.size w1.heap.size (srcOf rs) wr H.out.2 H.out.1.size)
        have HB := Lib.hid H.out.1
        clear ht H
        by_cases hl : (srcOf rs).length ≤ 65536
        · have HE := Lib.hid (psource_ok HY.out hl)
          have hq : ¬ (65536 : Int) < ((srcOf rs).length : Int) := by omega
          clear hl
          generalize (srcOf rs).length = q at *
          go_wp2_with (first
            | (go_at_call 38; refine CL.out.mono ?_; rintro e w2 ⟨rfl, rfl⟩)
            | (go_at_call 26; refine CS.out.mono ?_; rintro e w3 ⟨rfl, b3⟩; have B3 := Lib.hid (HB.out.trans b3); clear b3))
          go_ret2
          rw [HE.out]
          exact ⟨rfl, blw B1.out B3.out⟩
        · have HE := Lib.hid (psource_long HY.out hl)
          have hq : (65536 : Int) < ((srcOf rs).length : Int) := by omega
          clear hl
          generalize (srcOf rs).length = q at *
          go_wp2_with (go_at_call 38; refine CL.out.mono ?_; rintro e w2 ⟨rfl, rfl⟩)
          go_ret2
          rw [HE.out]
          exact ⟨rfl, blw B1.out HB.out⟩
end Go.Proofs.YtkhmpmjonkmbeaaDoor
