/- The program's valid rows. -/
import Derived.Test.YtkhmpmjonkmbeaaDoorPrb
set_option linter.unusedVariables false
set_option linter.unusedSimpArgs false
namespace Go.Proofs.YtkhmpmjonkmbeaaDoor
open Go Go.RowKit L7

theorem deep_pv {l : List Rw} {k : Nat} (hk : k ≤ l.length) : deep (l.take k) = pvD (-1) l k + 1 := by
  unfold deep pvD
  by_cases h : k = 0
  · subst h; rfl
  · have hl : (l.take k).length = k := by simp; omega
    rw [if_neg (by omega), if_neg h, hl]
    congr 2
    simp [List.getElem?_take, show k - 1 < k by omega]
theorem okX_prog (pn pd : Int) (x : Rw) {c1 c2 c3 c4 c5 c6 : Bool} (h1 : decide (x.no ≤ pn) = c1) (h2 : decide (65536 < x.no) = c2) (h3 : decide (x.dp < 0) = c3) (h4 : decide (pd + 1 < x.dp) = c4) (h5 : within x = c5) (h6 : fineT x.tx = c6) : okX pn pd x = (!c1 && !c2 && !c3 && !c4 && c5 && c6) := by
  subst h1 h2 h3 h4 h5 h6
  unfold okX within
  rw [fine_fineT]
  have e1 : decide (pn < x.no) = !decide (x.no ≤ pn) := by simp only [← decide_not, decide_eq_decide]; omega
  have e2 : decide (x.no ≤ 65536) = !decide (65536 < x.no) := by simp only [← decide_not, decide_eq_decide]; omega
  have e3 : decide (0 ≤ x.dp) = !decide (x.dp < 0) := by simp only [← decide_not, decide_eq_decide]; omega
  have e4 : decide (x.dp ≤ pd + 1) = !decide (pd + 1 < x.dp) := by simp only [← decide_not, decide_eq_decide]; omega
  rw [e1, e2, e3, e4]
  simp only [Bool.and_assoc]
theorem take_last {rs : List Rw} {k : Nat} (h0 : 0 < k) (hk : k ≤ rs.length) : (rs.take k).getD (k - 1) r0 = rs.getD (k - 1) r0 := by
  simp [List.getElem?_take, show k - 1 < k by omega]
set_option maxRecDepth 100000 in
set_option maxHeartbeats 16000000 in
theorem May_any {A : Option Addr} {c m : Nat} {rs : List Rw} {w : World} (R : RR w A c rs) (hm : rs.length = m) (hx : MaxIs w) : Calls Tryd.prog 17 #[.slice A m c] w fun e w' => e = .returned (.bool (may rs)) ∧ Below w.heap.size w w' := by
  have HR := Lib.hid R
  have hmx : m ≤ maxLen := by have := R.le; have := R.mx; omega
  unfold maxLen at hmx
  have HM := Lib.hid hm
  have HX := Lib.hid hx
  clear R hm hx
  by_cases h2048 : (2048 : Int) < (m : Int)
  · have HE := Lib.hid (may_long (l := rs) (by rw [HM.out]; omega))
    go_enter Tryd.func17, Tryd.ntmps17
    go_wp2
    go_ret
    rw [HE.out]
    exact ⟨rfl, b0 w⟩
  have hm3 : m ≤ 2048 := by omega
  go_enter Tryd.func17, Tryd.ntmps17
  go_wp2
  go_loopw [3, 4, 12] (fun p z i wr => ∃ k sz : Nat, k ≤ m ∧ sz ≤ 321 * k ∧ i = .int .i64 k ∧ p = .int .i64 (pvN 0 rs k) ∧ z = .int .i64 sz ∧ Hid (Below w.heap.size w wr ∧ OkTo rs k ∧ size (rs.take k) = sz)) (fun _ _ i _ => m - (intOf i).toNat)
  case atStart => exact ⟨0, 0, Nat.zero_le _, Nat.zero_le _, rfl, rfl, rfl, Lib.hid ⟨b0 w, fun j hj => absurd hj (by omega), by simp [size]⟩⟩
  case round =>
    obtain ⟨k, sz, hk, hsz, rfl, rfl, rfl, H⟩ := hrel
    have hk0 : (0 : Int) ≤ (k : Int) := by omega
    by_cases hlt : (k : Int) < (m : Int)
    · have hkl : k < rs.length := by have := HM.out; omega
      obtain ⟨p1, p2, p3, p4⟩ := pv_bounds H.out.2.1 (by omega)
      obtain ⟨ad, rfl, g0, g1, g2⟩ := (HR.out.keep H.out.1).rd k (by omega)
      have hkc : (k : Int) ≤ (c : Int) := by have := HR.out.le; omega
      have CD := Lib.hid (fun (W : World) (b : Below w.heap.size w W) => show Calls Tryd.prog 39 #[.slice (some ad) k c] W fun e w' => e = .returned (.int .i64 (pvD (-1) rs k + 1)) ∧ W = w' by
        have := deepest_any ((HR.out.keep b).take k) (m := k) (by simp; omega) (fun h0 => by
          rw [take_last h0 (by omega)]
          have hb := ok_bounds (H.out.2.1 (k - 1) (by omega))
          have hb1 : 0 ≤ (rs.getD (k - 1) r0).dp := hb.2.2.1
          have hb2 : (rs.getD (k - 1) r0).dp ≤ 32 := hb.2.2.2.1
          omega)
        rwa [deep_pv (by omega)] at this)
      have CW := Lib.hid (fun W => isWithin_any (rs.getD k r0) (HR.out.ok.get k) W)
      have CS := Lib.hid (fun h1 h2 h3 W => size_any (rs.getD k r0) h1 h2 h3 W)
      have CT := Lib.hid (fun (h : within (rs.getD k r0) = true) (W : World) (b : Below w.heap.size w W) => isText_any (rs.getD k r0).tx (by unfold within at h; simp only [Bool.and_eq_true, decide_eq_true_eq] at h; omega) W (HX.out.below b))
      have HBad := Lib.hid (fun h => may_bad (l := rs) (k := k) hkl h)
      have HGood := Lib.hid (fun h => okTo_succ (l := rs) (k := k) H.out.2.1 h)
      have HB := Lib.hid H.out.1
      have HSz := Lib.hid (show size (rs.take (k + 1)) = sz + (2 * (rs.getD k r0).dp.toNat + (rs.getD k r0).tx.length + 1) by rw [size_snoc hkl, H.out.2.2]; rfl)
      have HPn := Lib.hid (show pvN 0 rs (k + 1) = (rs.getD k r0).no by unfold pvN; rw [if_neg (by omega), Nat.add_sub_cancel]; rfl)
      have HOK := Lib.hid (fun (c1 c2 c3 c4 c5 c6 : Bool) h1 h2 h3 h4 h5 h6 => okX_prog (pvN 0 rs k) (pvD (-1) rs k) (rs.getD k z0) (c1 := c1) (c2 := c2) (c3 := c3) (c4 := c4) (c5 := c5) (c6 := c6) h1 h2 h3 h4 h5 h6)
      generalize pvN 0 rs k = pn at *
      generalize pvD (-1) rs k = pd at *
      change Hid (∀ (c1 c2 c3 c4 c5 c6 : Bool), decide ((rs.getD k r0).no ≤ pn) = c1 → decide (65536 < (rs.getD k r0).no) = c2 → decide ((rs.getD k r0).dp < 0) = c3 → decide (pd + 1 < (rs.getD k r0).dp) = c4 → within (rs.getD k r0) = c5 → fineT (rs.getD k r0).tx = c6 → okX pn pd (rs.getD k r0) = (!c1 && !c2 && !c3 && !c4 && c5 && c6)) at HOK
      change Hid (okX pn pd (rs.getD k r0) = false → may rs = false) at HBad
      change Hid (okX pn pd (rs.getD k r0) = true → OkTo rs (k + 1)) at HGood
      have HBnd := Lib.hid (fun (h : okX pn pd (rs.getD k r0) = true) => ok_bounds h)
      generalize rs.getD k r0 = x at *
      obtain ⟨no, dp, tx⟩ := x
      dsimp only at *
      clear H
      have bx := Lib.hid (boxS_new wr 38 #[.int .i64 no, .int .i64 dp, .string (strOf tx)])
      have bV := Lib.hid (bal HB.out (.cells #[.int .i64 no, .int .i64 dp, .string (strOf tx)] 38))
      by_cases h : no ≤ pn
      · have HE := Lib.hid (HBad.out ((HOK.out true _ _ _ _ _ (decide_eq_true h) rfl rfl rfl rfl rfl).trans (by simp)))
        have q := decide_eq_true h
        clear h
        go_wp2
        generalize wr.alloc (.cells #[.int .i64 no, .int .i64 dp, .string (strOf tx)] 38) = V at *
        generalize wr.heap.size = B at *
        obtain ⟨⟨x0, y0, z0⟩, _⟩ := box3 bx.out
        have D0 := Lib.hid (show Below w.heap.size w V.drew from bdrew bV.out 1)
        have bxd := Lib.hid (show BoxS V.drew B 38 #[.int .i64 no, .int .i64 dp, .string (strOf tx)] from bx.out)
        go_quiet (fail)
        have HW := Lib.hid (bdrew bV.out nq)
        generalize V.drewN nq = W at *
        go_wp2
        go_ret
        rw [HE.out]
        exact ⟨rfl, HW.out⟩
      have q1 : decide (no ≤ pn) = false := decide_eq_false h
      clear h
      by_cases h : 65536 < no
      · have HE := Lib.hid (HBad.out ((HOK.out false true _ _ _ _ q1 (decide_eq_true h) rfl rfl rfl rfl).trans (by simp)))
        have q := decide_eq_true h
        clear h
        go_wp2
        generalize wr.alloc (.cells #[.int .i64 no, .int .i64 dp, .string (strOf tx)] 38) = V at *
        generalize wr.heap.size = B at *
        obtain ⟨⟨x0, y0, z0⟩, _⟩ := box3 bx.out
        have D0 := Lib.hid (show Below w.heap.size w V.drew from bdrew bV.out 1)
        have bxd := Lib.hid (show BoxS V.drew B 38 #[.int .i64 no, .int .i64 dp, .string (strOf tx)] from bx.out)
        go_quiet (fail)
        have HW := Lib.hid (bdrew bV.out nq)
        generalize V.drewN nq = W at *
        go_wp2
        go_ret
        rw [HE.out]
        exact ⟨rfl, HW.out⟩
      have q2 : decide (65536 < no) = false := decide_eq_false h
      clear h
      by_cases h : dp < 0
      · have HE := Lib.hid (HBad.out ((HOK.out false false true _ _ _ q1 q2 (decide_eq_true h) rfl rfl rfl).trans (by simp)))
        have q := decide_eq_true h
        clear h
        go_wp2
        generalize wr.alloc (.cells #[.int .i64 no, .int .i64 dp, .string (strOf tx)] 38) = V at *
        generalize wr.heap.size = B at *
        obtain ⟨⟨x0, y0, z0⟩, _⟩ := box3 bx.out
        have D0 := Lib.hid (show Below w.heap.size w V.drew from bdrew bV.out 1)
        have bxd := Lib.hid (show BoxS V.drew B 38 #[.int .i64 no, .int .i64 dp, .string (strOf tx)] from bx.out)
        go_quiet (fail)
        have HW := Lib.hid (bdrew bV.out nq)
        generalize V.drewN nq = W at *
        go_wp2
        go_ret
        rw [HE.out]
        exact ⟨rfl, HW.out⟩
      have q3 : decide (dp < 0) = false := decide_eq_false h
      clear h
      by_cases h : pd + 1 < dp
      · have HE := Lib.hid (HBad.out ((HOK.out false false false true _ _ q1 q2 q3 (decide_eq_true h) rfl rfl).trans (by simp)))
        have q := decide_eq_true h
        clear h
        go_wp2
        generalize wr.alloc (.cells #[.int .i64 no, .int .i64 dp, .string (strOf tx)] 38) = V at *
        generalize wr.heap.size = B at *
        obtain ⟨⟨x0, y0, z0⟩, _⟩ := box3 bx.out
        have D0 := Lib.hid (show Below w.heap.size w V.drew from bdrew bV.out 1)
        have bxd := Lib.hid (show BoxS V.drew B 38 #[.int .i64 no, .int .i64 dp, .string (strOf tx)] from bx.out)
        have CDq := Lib.hid (fun n => (CD.out (V.drewN n) (bdrew bV.out n)).mono (R' := fun e w' => e = .returned (.int .i64 (pd + 1)) ∧ w' = V.drewN n) (fun e w' h => ⟨h.1, h.2.symm⟩))
        go_quiet ((go_at_call 39; exact Calls.quiet_of_same (CDq.out _)))
        have HW := Lib.hid (bdrew bV.out nq)
        all_goals
          go_wp2
          go_ret
          rw [HE.out]
          exact ⟨rfl, HW.out⟩
      have q4 : decide (pd + 1 < dp) = false := decide_eq_false h
      clear h
      cases hw : within ⟨no, dp, tx⟩ with
      | false =>
        have HE := Lib.hid (HBad.out ((HOK.out false false false false false _ q1 q2 q3 q4 hw rfl).trans (by simp)))
        rw [hw] at CW
        clear hw
        go_wp2
        generalize wr.alloc (.cells #[.int .i64 no, .int .i64 dp, .string (strOf tx)] 38) = V at *
        generalize wr.heap.size = B at *
        obtain ⟨⟨x0, y0, z0⟩, _⟩ := box3 bx.out
        have D0 := Lib.hid (show Below w.heap.size w V.drew from bdrew bV.out 1)
        have bxd := Lib.hid (show BoxS V.drew B 38 #[.int .i64 no, .int .i64 dp, .string (strOf tx)] from bx.out)
        first | (go_region_with (first
            | (go_at_call 39; (with_reducible refine (CD.out _ D0.out).mono ?_); rintro e v0 ⟨rfl, rfl⟩)
            | (go_at_call 40; (with_reducible refine (CW.out _).mono ?_); rintro e v1 ⟨rfl, b1⟩; have B1 := Lib.hid (blw D0.out b1); have X1 := Lib.hid (bxd.out.below b1); obtain ⟨⟨x1, y1, z1⟩, _⟩ := box3 X1.out; clear b1)
            | (go_at_call 41; (with_reducible refine (CT2.out _ B1.out).mono ?_); rintro e v2 ⟨rfl, b2⟩; have B2 := Lib.hid (blw B1.out b2); have X2 := Lib.hid (X1.out.below b2); obtain ⟨⟨x2, y2, z2⟩, _⟩ := box3 X2.out; clear b2))) | fail
        all_goals
          go_wp2
          go_ret
          rw [HE.out]
          exact ⟨rfl, B1.out⟩
      | true =>
        rw [hw] at CW
        have CT2 := Lib.hid (CT.out hw)
        cases hf : fineT tx with
        | false =>
          have HE := Lib.hid (HBad.out ((HOK.out false false false false true false q1 q2 q3 q4 hw hf).trans (by simp)))
          rw [hf] at CT2
          clear hw hf CT
          go_wp2
          generalize wr.alloc (.cells #[.int .i64 no, .int .i64 dp, .string (strOf tx)] 38) = V at *
          generalize wr.heap.size = B at *
          obtain ⟨⟨x0, y0, z0⟩, _⟩ := box3 bx.out
          have D0 := Lib.hid (show Below w.heap.size w V.drew from bdrew bV.out 1)
          have bxd := Lib.hid (show BoxS V.drew B 38 #[.int .i64 no, .int .i64 dp, .string (strOf tx)] from bx.out)
          first | (go_region_held3 (fun w' => w'.cell? ⟨B, 0, none⟩ = some (.int .i64 no) ∧ w'.cell? ⟨B, 1, none⟩ = some (.int .i64 dp) ∧ w'.cell? ⟨B, 2, none⟩ = some (.string (strOf tx))) (first | (exact ⟨x0, y0, z0⟩) | (exact ⟨x1, y1, z1⟩) | (exact ⟨x2, y2, z2⟩) | go_keep)
            (first
            | (go_at_call 39; (with_reducible refine (CD.out _ D0.out).mono ?_); rintro e v0 ⟨rfl, rfl⟩)
            | (go_at_call 40; (with_reducible refine (CW.out _).mono ?_); rintro e v1 ⟨rfl, b1⟩; have B1 := Lib.hid (blw D0.out b1); have X1 := Lib.hid (bxd.out.below b1); obtain ⟨⟨x1, y1, z1⟩, _⟩ := box3 X1.out; clear b1)
            | (go_at_call 41; (with_reducible refine (CT2.out _ B1.out).mono ?_); rintro e v2 ⟨rfl, b2⟩; have B2 := Lib.hid (blw B1.out b2); have X2 := Lib.hid (X1.out.below b2); obtain ⟨⟨x2, y2, z2⟩, _⟩ := box3 X2.out; clear b2))) | fail
          all_goals go_wp2
          go_ret
          rw [HE.out]
          exact ⟨rfl, B2.out⟩
        | true =>
          have hok := HOK.out false false false false true true q1 q2 q3 q4 hw hf
          simp only [Bool.not_false, Bool.and_true] at hok
          have HE := Lib.hid (HGood.out hok)
          have hbnd := HBnd.out hok
          have hl1 := hbnd.2.2.2.2.2
          have hd1 := hbnd.2.2.1
          have hd2 := hbnd.2.2.2.1
          have CS2 := Lib.hid (CS.out hd1 hd2 hl1)
          rw [hf] at CT2
          clear hw hf hok hbnd CT CS
          obtain ⟨tl, htl⟩ : ∃ tl, tx.length = tl := ⟨_, rfl⟩
          rw [htl] at hl1 HSz CS2
          clear htl
          have HS := Lib.hid (show (sz : Int) + (2 * dp + (tl : Int) + 1) = ((sz + (2 * dp.toNat + tl + 1) : Nat) : Int) ∧ sz + (2 * dp.toNat + tl + 1) ≤ 321 * (k + 1) by omega)
          have hsb : 2 * dp + (tl : Int) + 1 ≤ 1000 := by omega
          have hsb0 : 0 ≤ 2 * dp + (tl : Int) + 1 := by omega
          generalize 2 * dp + (tl : Int) + 1 = zz at *
          go_wp2
          generalize wr.alloc (.cells #[.int .i64 no, .int .i64 dp, .string (strOf tx)] 38) = V at *
          generalize wr.heap.size = B at *
          obtain ⟨⟨x0, y0, z0⟩, _⟩ := box3 bx.out
          have D0 := Lib.hid (show Below w.heap.size w V.drew from bdrew bV.out 1)
          have bxd := Lib.hid (show BoxS V.drew B 38 #[.int .i64 no, .int .i64 dp, .string (strOf tx)] from bx.out)
          first | (go_region_held3 (fun w' => w'.cell? ⟨B, 0, none⟩ = some (.int .i64 no) ∧ w'.cell? ⟨B, 1, none⟩ = some (.int .i64 dp) ∧ w'.cell? ⟨B, 2, none⟩ = some (.string (strOf tx))) (first | (exact ⟨x0, y0, z0⟩) | (exact ⟨x1, y1, z1⟩) | (exact ⟨x2, y2, z2⟩) | go_keep)
            (first
            | (go_at_call 39; (with_reducible refine (CD.out _ D0.out).mono ?_); rintro e v0 ⟨rfl, rfl⟩)
            | (go_at_call 40; (with_reducible refine (CW.out _).mono ?_); rintro e v1 ⟨rfl, b1⟩; have B1 := Lib.hid (blw D0.out b1); have X1 := Lib.hid (bxd.out.below b1); obtain ⟨⟨x1, y1, z1⟩, _⟩ := box3 X1.out; clear b1)
            | (go_at_call 41; (with_reducible refine (CT2.out _ B1.out).mono ?_); rintro e v2 ⟨rfl, b2⟩; have B2 := Lib.hid (blw B1.out b2); have X2 := Lib.hid (X1.out.below b2); obtain ⟨⟨x2, y2, z2⟩, _⟩ := box3 X2.out; clear b2))) | fail
          all_goals go_wp2_with (go_at_call 42; refine (CS2.out _).mono ?_; rintro e v3 ⟨rfl, b3⟩; have B3 := Lib.hid (blw B2.out b3); clear b3)
          go_roundw
          case rel => exact ⟨k + 1, sz + (2 * dp.toNat + tl + 1), by omega, HS.out.2, by go_num, by rw [HPn.out], by rw [HS.out.1], Lib.hid ⟨B3.out, HE.out, HSz.out⟩⟩
          case measure => simp [intOf]; omega
    · obtain rfl : k = m := by omega
      have HE := Lib.hid (show may rs = decide ((sz : Int) ≤ 65537) by
        obtain ⟨_, h2, h3⟩ := H.out
        have h4 := HM.out
        rw [may_end (by omega) (by rw [h4]; exact h2)]
        rw [List.take_of_length_le (by omega)] at h3
        rw [h3]
        simp only [decide_eq_decide]
        omega)
      have HB := Lib.hid H.out.1
      clear H
      go_wp2
      go_ret
      rw [HE.out]
      exact ⟨rfl, HB.out⟩
end Go.Proofs.YtkhmpmjonkmbeaaDoor
