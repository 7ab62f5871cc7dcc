/- The reference's functions on lines: contents, continuing lines, plain lines, valid texts, spaces. -/
import Derived.Test.YtkhmpmjonkmbeaaDoorKit
import Derived.Test.YtkhmpmjonkmbeaaDoorCpl
set_option linter.unusedVariables false
set_option linter.unusedSimpArgs false
namespace Go.Proofs.YtkhmpmjonkmbeaaDoor
open Go Go.RowKit L7

theorem b45 (a : UInt8) : ((a.toNat : Int) == 45) = decide (a = 45) := byte_eq a 45 (by decide) 45 rfl
theorem b32 (a : UInt8) : ((a.toNat : Int) == 32) = decide (a = 32) := byte_eq a 32 (by decide) 32 rfl
theorem b10 (a : UInt8) : ((a.toNat : Int) == 10) = decide (a = 10) := byte_eq a 10 (by decide) 10 rfl
theorem bb (a b : UInt8) : ((a.toNat : Int) == (b.toNat : Int)) = decide (a = b) := byte_eq a b.toNat (UInt8.toNat_lt b) b rfl
set_option maxRecDepth 100000 in
set_option maxHeartbeats 8000000 in
theorem RCut_any (l : Bs) (hl : l.length ≤ 100000) (w : World) : Calls Tryd.prog 34 #[.string (strOf l)] w fun e w' => e = .returned (.tuple #[.int .i64 ((cutL l).1 : Int), .string (strOf (cutL l).2)]) ∧ Below w.heap.size w w' := by
  have hsz := size_strOf l
  obtain ⟨n, hn⟩ : ∃ n, l.length = n := ⟨_, rfl⟩
  rw [hn] at hsz hl
  have HN := Lib.hid hn
  have HI := Lib.hid (fun (k : Nat) (hk : k < n) (W : World) => index_l l k (by omega) W)
  have HM := Lib.hid (fun (i k : Nat) (h : i ≤ k) (hk : k ≤ n) (W : World) => cut_mid l i k h (by omega) W)
  clear hn
  go_enter Tryd.func34, Tryd.ntmps34
  go_wp2
  go_loopw [4, 5] (fun e i wr => ∃ d k : Nat, d ≤ n ∧ k ≤ n ∧ e = .int .i64 d ∧ i = .int .i64 ((k : Int) - 2) ∧ w = wr ∧ Hid (if k ≤ 1 then d = eD l 0 else d = eD l (k - 1))) (fun _ i _ => (intOf i + 2).toNat)
  case atStart =>
    refine ⟨n, n, Nat.le_refl _, Nat.le_refl _, rfl, rfl, rfl, Lib.hid ?_⟩
    have h := HN.out
    by_cases h1 : n ≤ 1
    · rw [if_pos h1]
      by_cases h0 : n = 0
      · subst h0
        rw [List.eq_nil_of_length_eq_zero h]; rfl
      · rw [eD_last (show 0 + 1 = l.length by omega), h]
    · rw [if_neg h1, eD_last (by omega), h]
  case round =>
    obtain ⟨d, k, hd, hk, rfl, rfl, rfl, H⟩ := hrel
    by_cases hk2 : 2 ≤ k
    · obtain ⟨i, rfl⟩ : ∃ i, k = i + 2 := ⟨k - 2, by omega⟩
      have ei : (((i + 2 : Nat) : Int) - 2) = (i : Int) := by omega
      rw [ei]
      have h1 := HI.out i (by omega)
      have h2 := HI.out (i + 1) (by omega)
      have e2 : ((i + 1 : Nat) : Int) = (i : Int) + 1 := by omega
      rw [e2] at h2
      have q1 := b45 (l.getD i 0)
      have q2 := b45 (l.getD (i + 1) 0)
      have HH := Lib.hid (fun (a : l.getD i 0 = 45) (b : l.getD (i + 1) 0 = 45) => eD_hit (l := l) (k := i) (by rw [HN.out]; omega) a b)
      have HX := Lib.hid (fun (a : ¬ (l.getD i 0 = 45 ∧ l.getD (i + 1) 0 = 45)) => eD_miss (l := l) (k := i) (by rw [HN.out]; omega) a)
      have HO := Lib.hid (show d = eD l (i + 1) by have := H.out; rw [if_neg (by omega)] at this; exact this)
      have hi0 : (0 : Int) ≤ (i : Int) := by omega
      clear H ei e2 hk2
      have fin : ∀ d' : Nat, d' = eD l i → Hid (if i + 1 ≤ 1 then d' = eD l 0 else d' = eD l (i + 1 - 1)) := fun d' h => Lib.hid (by
        by_cases hz : i = 0
        · subst hz; rw [if_pos (by omega)]; exact h
        · rw [if_neg (by omega)]; exact h)
      have HF := Lib.hid fin
      clear fin
      by_cases a1 : l.getD i 0 = 45
      · rw [decide_eq_true a1] at q1
        by_cases a2 : l.getD (i + 1) 0 = 45
        · rw [decide_eq_true a2] at q2
          have HE := Lib.hid (HH.out a1 a2)
          clear a1 a2 HH HX
          generalize ((l.getD i 0).toNat : Int) = x at *
          generalize ((l.getD (i + 1) 0).toNat : Int) = y at *
          go_wp2
          go_roundw
          case rel => exact ⟨i, i + 1, by omega, by omega, rfl, by go_num, trivial, HF.out i HE.out.symm⟩
          case measure => simp [intOf]; omega
        · rw [decide_eq_false a2] at q2
          have HE := Lib.hid (HX.out (fun h => a2 h.2))
          clear a1 a2 HH HX
          generalize ((l.getD i 0).toNat : Int) = x at *
          generalize ((l.getD (i + 1) 0).toNat : Int) = y at *
          go_wp2
          go_roundw
          case rel => exact ⟨d, i + 1, hd, by omega, rfl, by go_num, trivial, HF.out d (by rw [HE.out]; exact HO.out)⟩
          case measure => simp [intOf]; omega
      · rw [decide_eq_false a1] at q1
        have HE := Lib.hid (HX.out (fun h => a1 h.1))
        clear a1 HH HX q2
        generalize ((l.getD i 0).toNat : Int) = x at *
        go_wp2
        go_roundw
        case rel => exact ⟨d, i + 1, hd, by omega, rfl, by go_num, trivial, HF.out d (by rw [HE.out]; exact HO.out)⟩
        case measure => simp [intOf]; omega
    · have HO := Lib.hid (show d = eD l 0 by have := H.out; rw [if_pos (by omega)] at this; exact this)
      have hk1 : ((k : Int) - 2) < 0 := by omega
      clear H hk2
      generalize (k : Int) - 2 = z at *
      go_wp2
      go_loopw [4] (fun e wr => ∃ f : Nat, f ≤ d ∧ e = .int .i64 f ∧ w = wr ∧ Hid (trimR (l.take d) = trimR (l.take f))) (fun e _ => (intOf e).toNat)
      case atStart => exact ⟨d, Nat.le_refl _, rfl, rfl, Lib.hid rfl⟩
      case round =>
        obtain ⟨f, hf, rfl, rfl, H⟩ := hrel
        by_cases hgo : 0 < f ∧ l.getD (f - 1) 0 = 32
        · obtain ⟨f0, a1⟩ := hgo
          have h1 := HI.out (f - 1) (by omega)
          have e1 : ((f - 1 : Nat) : Int) = (f : Int) - 1 := by omega
          have q1 := b32 (l.getD (f - 1) 0)
          rw [e1] at h1
          rw [decide_eq_true a1] at q1
          have HE := Lib.hid (show trimR (l.take d) = trimR (l.take (f - 1)) by
            have := tR_step (l := l) (e := f - 1) (by rw [HN.out]; omega) a1
            rw [show f - 1 + 1 = f by omega] at this
            exact H.out.trans this)
          have hf0 : (0 : Int) < (f : Int) := by omega
          clear a1 H
          generalize ((l.getD (f - 1) 0).toNat : Int) = x at *
          go_wp2
          go_roundw
          case rel => exact ⟨f - 1, by omega, by rw [e1], trivial, HE⟩
          case measure => simp [intOf]; omega
        · have HE := Lib.hid (show trimR (l.take d) = l.take f by
            rw [H.out]
            by_cases f0 : 0 < f
            · have := tR_stop (l := l) (e := f - 1) (by rw [HN.out]; omega) (fun a => hgo ⟨f0, a⟩)
              rwa [show f - 1 + 1 = f by omega] at this
            · obtain rfl : f = 0 := by omega
              rfl)
          have hfn : f ≤ n := by omega
          have HC := Lib.hid (fun (j : Nat) (hj : indL (l.take f) = j) => cut_of (l := l) HO.out HE.out hj)
          have key : (¬ (0 : Int) < (f : Int)) ∨ ((0 : Int) < (f : Int) ∧ ∃ x : Int, (∀ W, (Instr.index 9 (.string (strOf l)) (.int .i64 ((f : Int) - 1))).run Tryd.prog W = .ok (.int .u8 x) W) ∧ (x == 32) = false) := by
            by_cases hf0 : (0 : Int) < (f : Int)
            · have h1 := HI.out (f - 1) (by omega)
              have e1 : ((f - 1 : Nat) : Int) = (f : Int) - 1 := by omega
              have q1 := b32 (l.getD (f - 1) 0)
              rw [e1] at h1
              rw [decide_eq_false (fun a => hgo ⟨by omega, a⟩)] at q1
              exact .inr ⟨hf0, _, h1, q1⟩
            · exact .inl hf0
          clear hgo H HE HO
          rcases key with hf0 | ⟨hf0, x, h1, q1⟩
          all_goals
            go_wp2
            go_loopw [6] (fun i wr => ∃ k : Nat, k ≤ f ∧ i = .int .i64 k ∧ w = wr ∧ Hid (∀ j, j < k → l.getD j 0 = 32)) (fun i _ => f - (intOf i).toNat)
            case atStart => exact ⟨0, Nat.zero_le _, rfl, rfl, Lib.hid (fun j hj => absurd hj (by omega))⟩
            case round =>
              obtain ⟨k, hk, rfl, rfl, H⟩ := hrel
              have hk0 : (0 : Int) ≤ (k : Int) := by omega
              by_cases hgo : k < f ∧ l.getD k 0 = 32
              · obtain ⟨k1, a1⟩ := hgo
                have h2 := HI.out k (by omega)
                have q2 := b32 (l.getD k 0)
                rw [decide_eq_true a1] at q2
                have HE := Lib.hid (show ∀ j, j < k + 1 → l.getD j 0 = 32 from fun j hj => if h : j < k then H.out j h else by rw [show j = k by omega]; exact a1)
                have hlt : (k : Int) < (f : Int) := by omega
                clear a1 H
                generalize ((l.getD k 0).toNat : Int) = y at *
                go_wp2
                go_roundw
                case rel => exact ⟨k + 1, by omega, by go_num, trivial, HE⟩
                case measure => simp [intOf]; omega
              · have HE := Lib.hid (HC.out k (ind_stop (by rw [HN.out]; exact hfn) hk H.out (by
                  by_cases h : k = f
                  · exact .inl h
                  · exact .inr (fun a => hgo ⟨by omega, a⟩))))
                have hm := HM.out k f hk hfn
                have key2 : (¬ (k : Int) < (f : Int)) ∨ ((k : Int) < (f : Int) ∧ ∃ y : Int, (∀ W, (Instr.index 9 (.string (strOf l)) (.int .i64 (k : Int))).run Tryd.prog W = .ok (.int .u8 y) W) ∧ (y == 32) = false) := by
                  by_cases hlt : (k : Int) < (f : Int)
                  · have h2 := HI.out k (by omega)
                    have q2 := b32 (l.getD k 0)
                    rw [decide_eq_false (fun a => hgo ⟨by omega, a⟩)] at q2
                    exact .inr ⟨hlt, _, h2, q2⟩
                  · exact .inl hlt
                clear hgo H
                rcases key2 with hlt | ⟨hlt, y, h2, q2⟩
                all_goals
                  go_wp2
                  go_quiet (fail)
                  go_wp2
                  go_ret2
                  rw [HE.out]
                  exact ⟨rfl, bdrew (b0 w) _⟩
set_option maxRecDepth 100000 in
set_option maxHeartbeats 4000000 in
theorem RConts_any (l : Bs) (hl : l.length ≤ maxLen) (w : World) : Calls Tryd.prog 35 #[.string (strOf l)] w fun e w' => e = .returned (.bool (conts l)) ∧ Below w.heap.size w w' := by
  unfold maxLen at hl
  have hsz := size_strOf l
  by_cases h0 : l = []
  · subst h0
    rw [conts_nil]
    have hz : (strOf []).size = 0 := hsz
    clear hsz
    generalize strOf [] = S at *
    go_enter Tryd.func35, Tryd.ntmps35
    go_wp2
    go_ret
    exact ⟨rfl, b0 w⟩
  · have hpos := List.length_pos_iff.2 h0
    obtain ⟨n, hn⟩ : ∃ n, l.length = n := ⟨_, rfl⟩
    rw [hn] at hsz hl hpos
    have h1 := fun W => index_l l (n - 1) (by omega) W
    have e1 : ((n - 1 : Nat) : Int) = (n : Int) - 1 := by omega
    rw [e1] at h1
    have HT := Lib.hid (fun (j : Nat) (hj : j < 14) (h : l.getD (n - 1) 0 = cs.getD j 0) => conts_hit h0 hj (by rw [hn]; exact h))
    have HF := Lib.hid (fun (h : ∀ j, j < 14 → l.getD (n - 1) 0 ≠ cs.getD j 0) => conts_miss h0 (by rw [hn]; exact h))
    have HC := Lib.hid (fun (k : Nat) (hk : k < 14) (W : World) => show (Instr.index 9 (.string ⟨#[44, 59, 40, 91, 43, 45, 42, 47, 92, 61, 60, 62, 126, 38]⟩) (.int .i64 (k : Int))).run Tryd.prog W = .ok (.int .u8 ((cs.getD k 0).toNat : Int)) W from index_l cs k hk W)
    have HQ := Lib.hid (fun (k : Nat) => bb (l.getD (n - 1) 0) (cs.getD k 0))
    generalize l.getD (n - 1) 0 = c at *
    have hn0 : ((n : Int) == 0) = false := by simp; omega
    clear h0 e1 hn
    go_enter Tryd.func35, Tryd.ntmps35
    go_wp2
    go_loopw [3] (fun i wr => ∃ k : Nat, k ≤ 14 ∧ i = .int .i64 k ∧ Hid (Below w.heap.size w wr ∧ ∀ j, j < k → c ≠ cs.getD j 0)) (fun i _ => 14 - (intOf i).toNat)
    case atStart => exact ⟨0, Nat.zero_le _, rfl, Lib.hid ⟨b0 w, fun j hj => absurd hj (by omega)⟩⟩
    case round =>
      obtain ⟨k, hk, rfl, H⟩ := hrel
      by_cases hlt : (k : Int) < 14
      · have h2 := HC.out k (by omega)
        have q2 := HQ.out k
        by_cases a : c = cs.getD k 0
        · have HE := Lib.hid (HT.out k (by omega) a)
          rw [decide_eq_true a] at q2
          clear a
          generalize ((cs.getD k 0).toNat : Int) = y at *
          generalize (c.toNat : Int) = x at *
          go_wp2
          go_quiet (fail)
          have HB := Lib.hid (bdrew H.out.1 nq)
          generalize wr.drewN nq = W at *
          go_wp2
          go_ret
          rw [HE.out]
          exact ⟨rfl, HB.out⟩
        · rw [decide_eq_false a] at q2
          have HE := Lib.hid (show ∀ j, j < k + 1 → c ≠ cs.getD j 0 from fun j hj => if h : j < k then H.out.2 j h else by rw [show j = k by omega]; exact a)
          clear a
          generalize ((cs.getD k 0).toNat : Int) = y at *
          generalize (c.toNat : Int) = x at *
          go_wp2
          go_quiet (fail)
          have HB := Lib.hid (And.intro (bdrew H.out.1 nq) HE.out)
          generalize wr.drewN nq = W at *
          go_wp2
          go_roundw
          case rel => exact ⟨k + 1, by omega, by go_num, HB⟩
          case measure => simp [intOf]; omega
      · obtain rfl : k = 14 := by omega
        have HE := Lib.hid (HF.out H.out.2)
        have HB := Lib.hid H.out.1
        clear H
        go_wp2
        go_ret
        rw [HE.out]
        exact ⟨rfl, HB.out⟩
set_option maxRecDepth 100000 in
set_option maxHeartbeats 4000000 in
theorem Rplain_any (l : Bs) (hl : l.length ≤ maxLen) (w : World) : Calls Tryd.prog 32 #[.string (strOf l)] w fun e w' => e = .returned (.bool (l.all plainB)) ∧ w = w' := by
  unfold maxLen at hl
  have hsz := size_strOf l
  obtain ⟨n, hn⟩ : ∃ n, l.length = n := ⟨_, rfl⟩
  rw [hn] at hsz hl
  have HN := Lib.hid hn
  have HI := Lib.hid (fun (k : Nat) (hk : k < n) (W : World) => index_l l k (by omega) W)
  clear hn
  go_enter Tryd.func32, Tryd.ntmps32
  go_wp2
  go_loopw [3] (fun i wr => ∃ k : Nat, k ≤ n ∧ i = .int .i64 k ∧ w = wr ∧ Hid ((l.take k).all plainB = true)) (fun i _ => n - (intOf i).toNat)
  case atStart => exact ⟨0, Nat.zero_le _, rfl, rfl, Lib.hid rfl⟩
  case round =>
    obtain ⟨k, hk, rfl, rfl, H⟩ := hrel
    by_cases hlt : (k : Int) < (n : Int)
    · have h1 := HI.out k (by omega)
      obtain ⟨d, hd⟩ : ∃ d, (l.getD k 0).toNat = d := ⟨_, rfl⟩
      have hp := plain_int _ d hd
      rw [hd] at h1
      by_cases g1 : (32 : Int) ≤ (d : Int) <;> by_cases g2 : (d : Int) ≤ 126
      · have HE := Lib.hid (all_snoc (by rw [HN.out]; omega) H.out (hp.trans (by simp [g1, g2])))
        clear hp hd H
        go_wp2
        go_roundw
        case rel => exact ⟨k + 1, by omega, by go_num, trivial, HE⟩
        case measure => simp [intOf]; omega
      all_goals
        have HE := Lib.hid (all_bad (show k < l.length by rw [HN.out]; omega) (hp.trans (by simp [g1, g2])))
        clear hp hd H
        go_wp2
        go_ret
        rw [HE.out]
        exact ⟨rfl, rfl⟩
    · obtain rfl : k = n := by omega
      have HE := Lib.hid (show l.all plainB = true by have := H.out; rwa [List.take_of_length_le (by rw [HN.out]; exact Nat.le_refl _)] at this)
      clear H
      go_wp2
      go_ret
      rw [HE.out]
      exact ⟨rfl, rfl⟩
end Go.Proofs.YtkhmpmjonkmbeaaDoor
