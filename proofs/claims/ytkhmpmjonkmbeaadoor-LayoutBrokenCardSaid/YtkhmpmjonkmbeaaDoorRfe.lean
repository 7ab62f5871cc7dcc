/- The reference's valid rows, and their source text. -/
import Derived.Test.YtkhmpmjonkmbeaaDoorRfd
import Derived.Test.YtkhmpmjonkmbeaaDoorMpl
set_option linter.unusedVariables false
set_option linter.unusedSimpArgs false
namespace Go.Proofs.YtkhmpmjonkmbeaaDoor
open Go Go.RowKit L7

theorem okX_as (pn pd : Int) (x : Rw) {c1 c2 c3 c4 c5 c6 : Bool} (h1 : decide (x.no < pn + 1) = c1) (h2 : decide (65536 < x.no) = c2) (h3 : decide (x.dp < 0) = c3) (h4 : decide (pd + 1 < x.dp) = c4) (h5 : decide (32 < x.dp) = c5) (h6 : fine x.tx = c6) : okX pn pd x = (!c1 && !c2 && !c3 && !c4 && !c5 && c6) := by
  subst h1 h2 h3 h4 h5 h6
  unfold okX
  simp only [← decide_not]
  congr 1; congr 1; congr 1; congr 1; congr 1
  all_goals simp only [decide_eq_decide]; omega
set_option maxRecDepth 100000 in
set_option maxHeartbeats 16000000 in
theorem RMay_any {A : Option Addr} {c m : Nat} {rs : List Rw} {w : World} (R : RR w A c rs) (hm : rs.length = m) : Calls Tryd.prog 18 #[.slice A m c] w fun e w' => e = .returned (.bool (may rs)) ∧ Below w.heap.size w w' := by
  have HR := Lib.hid R
  have hmx : m ≤ maxLen := by have := R.le; have := R.mx; omega
  unfold maxLen at hmx
  have HM := Lib.hid hm
  have CF := Lib.hid (fun (k : Nat) (W : World) => Rfine_any (rs.getD k r0).tx (R.ok.get k) W)
  clear R hm
  by_cases h2048 : (2048 : Int) < (m : Int)
  · have HE := Lib.hid (may_long (l := rs) (by rw [HM.out]; omega))
    go_enter Tryd.func18, Tryd.ntmps18
    go_wp2
    go_ret
    rw [HE.out]
    exact ⟨rfl, b0 w⟩
  have hm3 : m ≤ 2048 := by omega
  go_enter Tryd.func18, Tryd.ntmps18
  go_wp2
  go_loopw [3, 4] (fun z i wr => ∃ k sz : Nat, k ≤ m ∧ sz ≤ 321 * k ∧ i = .int .i64 k ∧ z = .int .i64 sz ∧ Hid (Below w.heap.size w wr ∧ OkTo rs k ∧ size (rs.take k) = sz)) (fun _ i _ => m - (intOf i).toNat)
  case atStart => exact ⟨0, 0, Nat.zero_le _, Nat.zero_le _, rfl, rfl, Lib.hid ⟨b0 w, fun j hj => absurd hj (by omega), by simp [size]⟩⟩
  case round =>
    obtain ⟨k, sz, hk, hsz, rfl, rfl, H⟩ := hrel
    have hk0 : (0 : Int) ≤ (k : Int) := by omega
    by_cases hlt : (k : Int) < (m : Int)
    · have hkl : k < rs.length := by have := HM.out; omega
      obtain ⟨p1, p2, p3, p4⟩ := pv_bounds H.out.2.1 (by omega)
      obtain ⟨ad, rfl, g0, g1, g2⟩ := (HR.out.keep H.out.1).rd k (by omega)
      have C := Lib.hid (CF.out k)
      have HBad := Lib.hid (fun h => may_bad (l := rs) (k := k) hkl h)
      have HGood := Lib.hid (fun h => okTo_succ (l := rs) (k := k) H.out.2.1 h)
      have HB := Lib.hid H.out.1
      have HSz := Lib.hid (show size (rs.take (k + 1)) = sz + (2 * (rs.getD k r0).dp.toNat + (rs.getD k r0).tx.length + 1) by rw [size_snoc hkl, H.out.2.2]; rfl)
      have hpv : (k = 0 ∧ pvN 0 rs k = 0 ∧ pvD (-1) rs k = -1) ∨ ((0 : Int) < (k : Int) ∧ wr.cell? (ad.add ((k - 1) * 3)) = some (.int .i64 (pvN 0 rs k)) ∧ wr.cell? ⟨(ad.add ((k - 1) * 3)).block, (ad.add ((k - 1) * 3)).off + 1, none⟩ = some (.int .i64 (pvD (-1) rs k))) := by
        by_cases h0 : k = 0
        · exact .inl ⟨h0, by unfold pvN; rw [if_pos h0], by unfold pvD; rw [if_pos h0]⟩
        · obtain ⟨ad2, e2, q0, q1, _⟩ := (HR.out.keep H.out.1).rd (k - 1) (by omega)
          cases e2
          refine .inr ⟨by omega, ?_, ?_⟩
          · unfold pvN; rw [if_neg h0]; exact q0
          · unfold pvD; rw [if_neg h0]; exact q1
      have e1 : ((k - 1 : Nat) : Int) = (k : Int) - 1 ∨ k = 0 := by omega
      have HOK := Lib.hid (fun (c1 c2 c3 c4 c5 c6 : Bool) h1 h2 h3 h4 h5 h6 => okX_as (pvN 0 rs k) (pvD (-1) rs k) (rs.getD k z0) (c1 := c1) (c2 := c2) (c3 := c3) (c4 := c4) (c5 := c5) (c6 := c6) h1 h2 h3 h4 h5 h6)
      generalize pvN 0 rs k = pn at *
      generalize pvD (-1) rs k = pd at *
      change Hid (∀ (c1 c2 c3 c4 c5 c6 : Bool), decide ((rs.getD k r0).no < pn + 1) = c1 → decide (65536 < (rs.getD k r0).no) = c2 → decide ((rs.getD k r0).dp < 0) = c3 → decide (pd + 1 < (rs.getD k r0).dp) = c4 → decide (32 < (rs.getD k r0).dp) = c5 → fine (rs.getD k r0).tx = c6 → okX pn pd (rs.getD k r0) = (!c1 && !c2 && !c3 && !c4 && !c5 && c6)) at HOK
      change Hid (okX pn pd (rs.getD k r0) = false → may rs = false) at HBad
      change Hid (okX pn pd (rs.getD k r0) = true → OkTo rs (k + 1)) at HGood
      have HBnd := Lib.hid (fun (h : okX pn pd (rs.getD k r0) = true) => ok_bounds h)
      have hsS := size_strOf (rs.getD k r0).tx
      have htl := HR.out.ok.get k
      generalize rs.getD k r0 = x at *
      obtain ⟨no, dp, tx⟩ := x
      dsimp only at *
      clear H
      rcases hpv with ⟨hk1, rfl, rfl⟩ | ⟨hk1, v0, v1⟩
      · have hkz : ¬ (0 : Int) < (k : Int) := by omega
        have HOK := Lib.hid (fun (c1 c2 c3 c4 c5 c6 : Bool) (h1 : decide (no < 1) = c1) (h2 : decide (65536 < no) = c2) (h3 : decide (dp < 0) = c3) (h4 : decide (0 < dp) = c4) (h5 : decide (32 < dp) = c5) (h6 : fine tx = c6) => HOK.out c1 c2 c3 c4 c5 c6 h1 h2 h3 h4 h5 h6)
        clear e1 p1 p2 p3 p4 hk1
        by_cases h : no < 1
        · have HE := Lib.hid (HBad.out ((HOK.out true _ _ _ _ _ (decide_eq_true h) rfl rfl rfl rfl rfl).trans (by simp)))
          have q := decide_eq_true h
          clear h
          go_wp2
          go_ret
          rw [HE.out]
          exact ⟨rfl, HB.out⟩
        have q1 : decide (no < 1) = false := decide_eq_false h
        clear h
        by_cases h : 65536 < no
        · have HE := Lib.hid (HBad.out ((HOK.out false true _ _ _ _ q1 (decide_eq_true h) rfl rfl rfl rfl).trans (by simp)))
          have q := decide_eq_true h
          clear h
          go_wp2
          go_ret
          rw [HE.out]
          exact ⟨rfl, HB.out⟩
        have q2 : decide (65536 < no) = false := decide_eq_false h
        clear h
        by_cases h : dp < 0
        · have HE := Lib.hid (HBad.out ((HOK.out false false true _ _ _ q1 q2 (decide_eq_true h) rfl rfl rfl).trans (by simp)))
          have q := decide_eq_true h
          clear h
          go_wp2
          go_ret
          rw [HE.out]
          exact ⟨rfl, HB.out⟩
        have q3 : decide (dp < 0) = false := decide_eq_false h
        clear h
        by_cases h : 0 < dp
        · have HE := Lib.hid (HBad.out ((HOK.out false false false true _ _ q1 q2 q3 (decide_eq_true h) rfl rfl).trans (by simp)))
          have q := decide_eq_true h
          clear h
          go_wp2
          go_ret
          rw [HE.out]
          exact ⟨rfl, HB.out⟩
        have q4 : decide (0 < dp) = false := decide_eq_false h
        clear h
        by_cases h : 32 < dp
        · have HE := Lib.hid (HBad.out ((HOK.out false false false false true _ q1 q2 q3 q4 (decide_eq_true h) rfl).trans (by simp)))
          have q := decide_eq_true h
          clear h
          go_wp2
          go_ret
          rw [HE.out]
          exact ⟨rfl, HB.out⟩
        have q5 : decide (32 < dp) = false := decide_eq_false h
        clear h
        cases hf : fine tx with
        | false =>
          have HE := Lib.hid (HBad.out ((HOK.out false false false false false false q1 q2 q3 q4 q5 hf).trans (by simp)))
          rw [hf] at C
          clear hf
          go_wp2_with (go_at_call 43; refine (C.out _).mono ?_; rintro e w2 ⟨rfl, b2⟩; have B2 := Lib.hid (blw HB.out b2); have g0 := (b2.cell (g_lt g0)).trans g0; have g1 := (b2.cell (g_lt g1)).trans g1; have g2 := (b2.cell (g_lt g2)).trans g2; clear b2)
          go_ret
          rw [HE.out]
          exact ⟨rfl, B2.out⟩
        | true =>
          have hok := HOK.out false false false false false true q1 q2 q3 q4 q5 hf
          simp only [Bool.not_false, Bool.and_true] at hok
          have HE := Lib.hid (HGood.out hok)
          have hbnd := HBnd.out hok
          rw [hf] at C
          have hl1 := hbnd.2.2.2.2.2
          have hd1 := hbnd.2.2.1
          have hd2 := hbnd.2.2.2.1
          clear hf hok hbnd htl
          obtain ⟨tl, htl⟩ : ∃ tl, tx.length = tl := ⟨_, rfl⟩
          rw [htl] at hsS hl1 HSz
          clear htl
          have s1 : IntKind.i64.wrap (2 * dp) = 2 * dp := IntWalk.i64_in _ (by omega)
          have s2 : IntKind.i64.wrap ((sz : Int) + 2 * dp) = (sz : Int) + 2 * dp := IntWalk.i64_in _ (by omega)
          have s3 : IntKind.i64.wrap ((sz : Int) + 2 * dp + (tl : Int)) = (sz : Int) + 2 * dp + (tl : Int) := IntWalk.i64_in _ (by omega)
          have s4 : IntKind.i64.wrap ((sz : Int) + 2 * dp + (tl : Int) + 1) = (sz : Int) + 2 * dp + (tl : Int) + 1 := IntWalk.i64_in _ (by omega)
          have HS := Lib.hid (show (sz : Int) + 2 * dp + (tl : Int) + 1 = ((sz + (2 * dp.toNat + tl + 1) : Nat) : Int) ∧ sz + (2 * dp.toNat + tl + 1) ≤ 321 * (k + 1) by omega)
          go_wp2_with (go_at_call 43; refine (C.out _).mono ?_; rintro e w2 ⟨rfl, b2⟩; have B2 := Lib.hid (blw HB.out b2); have g0 := (b2.cell (g_lt g0)).trans g0; have g1 := (b2.cell (g_lt g1)).trans g1; have g2 := (b2.cell (g_lt g2)).trans g2; clear b2)
          go_quiet (fail)
          have HW := Lib.hid (bdrew B2.out nq)
          clear s1 s2 s3 s4 g0 g1 g2
          generalize w2.drewN nq = W at *
          go_wp2
          go_roundw
          case rel => exact ⟨k + 1, sz + (2 * dp.toNat + tl + 1), by omega, HS.out.2, by go_num, by rw [HS.out.1], Lib.hid ⟨HW.out, HE.out, HSz.out⟩⟩
          case measure => simp [intOf]; omega
      · have e1' : ((k - 1 : Nat) : Int) = (k : Int) - 1 := by omega
        have hkn : ((k : Int) - 1).toNat = k - 1 := by omega
        clear e1
        by_cases h : no < pn + 1
        · have HE := Lib.hid (HBad.out ((HOK.out true _ _ _ _ _ (decide_eq_true h) rfl rfl rfl rfl rfl).trans (by simp)))
          have q := decide_eq_true h
          clear h
          go_wp2
          go_ret
          rw [HE.out]
          exact ⟨rfl, HB.out⟩
        have q1 : decide (no < pn + 1) = false := decide_eq_false h
        clear h
        by_cases h : 65536 < no
        · have HE := Lib.hid (HBad.out ((HOK.out false true _ _ _ _ q1 (decide_eq_true h) rfl rfl rfl rfl).trans (by simp)))
          have q := decide_eq_true h
          clear h
          go_wp2
          go_ret
          rw [HE.out]
          exact ⟨rfl, HB.out⟩
        have q2 : decide (65536 < no) = false := decide_eq_false h
        clear h
        by_cases h : dp < 0
        · have HE := Lib.hid (HBad.out ((HOK.out false false true _ _ _ q1 q2 (decide_eq_true h) rfl rfl rfl).trans (by simp)))
          have q := decide_eq_true h
          clear h
          go_wp2
          go_ret
          rw [HE.out]
          exact ⟨rfl, HB.out⟩
        have q3 : decide (dp < 0) = false := decide_eq_false h
        clear h
        by_cases h : pd + 1 < dp
        · have HE := Lib.hid (HBad.out ((HOK.out false false false true _ _ q1 q2 q3 (decide_eq_true h) rfl rfl).trans (by simp)))
          have q := decide_eq_true h
          clear h
          go_wp2
          go_ret
          rw [HE.out]
          exact ⟨rfl, HB.out⟩
        have q4 : decide (pd + 1 < dp) = false := decide_eq_false h
        clear h
        by_cases h : 32 < dp
        · have HE := Lib.hid (HBad.out ((HOK.out false false false false true _ q1 q2 q3 q4 (decide_eq_true h) rfl).trans (by simp)))
          have q := decide_eq_true h
          clear h
          go_wp2
          go_ret
          rw [HE.out]
          exact ⟨rfl, HB.out⟩
        have q5 : decide (32 < dp) = false := decide_eq_false h
        clear h
        cases hf : fine tx with
        | false =>
          have HE := Lib.hid (HBad.out ((HOK.out false false false false false false q1 q2 q3 q4 q5 hf).trans (by simp)))
          rw [hf] at C
          clear hf
          go_wp2_with (go_at_call 43; refine (C.out _).mono ?_; rintro e w2 ⟨rfl, b2⟩; have B2 := Lib.hid (blw HB.out b2); have g0 := (b2.cell (g_lt g0)).trans g0; have g1 := (b2.cell (g_lt g1)).trans g1; have g2 := (b2.cell (g_lt g2)).trans g2; clear b2)
          go_ret
          rw [HE.out]
          exact ⟨rfl, B2.out⟩
        | true =>
          have hok := HOK.out false false false false false true q1 q2 q3 q4 q5 hf
          simp only [Bool.not_false, Bool.and_true] at hok
          have HE := Lib.hid (HGood.out hok)
          have hbnd := HBnd.out hok
          rw [hf] at C
          have hl1 := hbnd.2.2.2.2.2
          have hd1 := hbnd.2.2.1
          have hd2 := hbnd.2.2.2.1
          clear hf hok hbnd htl
          obtain ⟨tl, htl⟩ : ∃ tl, tx.length = tl := ⟨_, rfl⟩
          rw [htl] at hsS hl1 HSz
          clear htl
          have s1 : IntKind.i64.wrap (2 * dp) = 2 * dp := IntWalk.i64_in _ (by omega)
          have s2 : IntKind.i64.wrap ((sz : Int) + 2 * dp) = (sz : Int) + 2 * dp := IntWalk.i64_in _ (by omega)
          have s3 : IntKind.i64.wrap ((sz : Int) + 2 * dp + (tl : Int)) = (sz : Int) + 2 * dp + (tl : Int) := IntWalk.i64_in _ (by omega)
          have s4 : IntKind.i64.wrap ((sz : Int) + 2 * dp + (tl : Int) + 1) = (sz : Int) + 2 * dp + (tl : Int) + 1 := IntWalk.i64_in _ (by omega)
          have HS := Lib.hid (show (sz : Int) + 2 * dp + (tl : Int) + 1 = ((sz + (2 * dp.toNat + tl + 1) : Nat) : Int) ∧ sz + (2 * dp.toNat + tl + 1) ≤ 321 * (k + 1) by omega)
          go_wp2_with (go_at_call 43; refine (C.out _).mono ?_; rintro e w2 ⟨rfl, b2⟩; have B2 := Lib.hid (blw HB.out b2); have g0 := (b2.cell (g_lt g0)).trans g0; have g1 := (b2.cell (g_lt g1)).trans g1; have g2 := (b2.cell (g_lt g2)).trans g2; clear b2)
          go_quiet (fail)
          have HW := Lib.hid (bdrew B2.out nq)
          clear s1 s2 s3 s4 g0 g1 g2
          generalize w2.drewN nq = W at *
          go_wp2
          go_roundw
          case rel => exact ⟨k + 1, sz + (2 * dp.toNat + tl + 1), by omega, HS.out.2, by go_num, by rw [HS.out.1], Lib.hid ⟨HW.out, HE.out, HSz.out⟩⟩
          case measure => simp [intOf]; omega
    · obtain rfl : k = m := by omega
      have HE := Lib.hid (show may rs = decide ((sz : Int) ≤ 65537) by
        obtain ⟨_, h2, h3⟩ := H.out
        have h4 := HM.out
        rw [may_end (by omega) (by rw [h4]; exact h2)]
        rw [List.take_of_length_le (by omega)] at h3
        rw [h3]
        simp only [decide_eq_decide]
        omega)
      have HB := Lib.hid H.out.1
      clear H
      go_wp2
      go_ret
      rw [HE.out]
      exact ⟨rfl, HB.out⟩
end Go.Proofs.YtkhmpmjonkmbeaaDoor
