/- The reference's padded encodings. -/
import Derived.Test.YtiblicpaeogihaaPad
namespace Go.Proofs.Ytiblicpaeogihaa
open Go Go.RowKit

theorem own_keep {w w' : World} {B n : Nat} {v : Value} {xs : List Value} (h : w.ownsRow B 5 1 v n xs) (g : w.grownBy w' none) : w'.ownsRow B 5 1 v n xs :=
  h.kept g (by cases v.ownBlock <;> simp)
theorem rPad_no (f : Nat) {v : Int} (hv : isW v) (n : Int) (h : pde f v n ≠ 0) (w : World) : Calls Try.prog 16 #[.agg #[.int .u8 (f : Int), .int .i32 v], .int .i64 n] w (Gives w (pde f v n) (pd f v n)) := by
  unfold Gives
  have CL := Lib.hid (fun w => rLen_any f hv w)
  have CV := Lib.hid (fun w => Valid_any f v w)
  have e0 : pd f v n = [] := by
    unfold pd; unfold pde at h
    rw [if_neg]
    rintro ⟨a, b, c⟩
    rw [if_neg (by simp [a]), if_neg (by omega), if_neg (by omega)] at h
    exact h rfl
  rw [e0]
  unfold ln at CL
  by_cases h1 : valid f = true
  · have hp := enc_len_pos f v
    rw [if_pos h1] at CL
    rw [h1] at CV
    by_cases h2 : n < ((enc f v).length : Int)
    · rw [show pde f v n = 4 by unfold pde; rw [if_neg (by simp [h1]), if_pos h2]]
      generalize (enc f v).length = L at *
      clear h hv e0 h1 hp
      go_enter Try.func16, Try.ntmps16
      go_wp2_with (first
        | (go_at_call 30; (with_reducible refine (CV.out _).mono ?_); rintro e w1 ⟨rfl, g1⟩; have G1 := Lib.hid g1; obtain ⟨k0, k1⟩ := box_cells g1; clear g1)
        | (go_at_call 14; (with_reducible refine (CL.out _).mono ?_); rintro e w2 ⟨rfl, g2⟩; have G2 := Lib.hid (g_trans G1.out g2); clear g2))
      go_ret2
      exact ⟨none, 0, rfl, own_nil _ _, g_trans (World.grownBy_alloc w _ none) G2.out⟩
    · have h3 : 16 < n := by
        unfold pde at h
        rw [if_neg (by simp [h1]), if_neg h2] at h
        by_cases h3 : 16 < n
        · exact h3
        · rw [if_neg h3] at h; exact absurd rfl h
      rw [show pde f v n = 3 by unfold pde; rw [if_neg (by simp [h1]), if_neg h2, if_pos h3]]
      generalize (enc f v).length = L at *
      clear h hv e0 h1 hp
      go_enter Try.func16, Try.ntmps16
      go_wp2_with (first
        | (go_at_call 30; (with_reducible refine (CV.out _).mono ?_); rintro e w1 ⟨rfl, g1⟩; have G1 := Lib.hid g1; obtain ⟨k0, k1⟩ := box_cells g1; clear g1)
        | (go_at_call 14; (with_reducible refine (CL.out _).mono ?_); rintro e w2 ⟨rfl, g2⟩; have G2 := Lib.hid (g_trans G1.out g2); clear g2))
      go_ret2
      exact ⟨none, 0, rfl, own_nil _ _, g_trans (World.grownBy_alloc w _ none) G2.out⟩
  · have h1 : valid f = false := by simpa using h1
    rw [show pde f v n = 2 by unfold pde; rw [if_pos h1]]
    rw [h1] at CV
    clear h hv e0 h1 CL
    go_enter Try.func16, Try.ntmps16
    go_wp2_with (go_at_call 30; (with_reducible refine (CV.out _).mono ?_); rintro e w1 ⟨rfl, g1⟩; have G1 := Lib.hid g1; clear g1)
    go_ret2
    exact ⟨none, 0, rfl, own_nil _ _, g_trans (World.grownBy_alloc w _ none) G1.out⟩
set_option maxRecDepth 100000 in
set_option maxHeartbeats 1000000 in
theorem rPad_ok (f : Nat) {v : Int} (hv : isW v) (h1 : valid f = true) (m : Nat) (h2 : (enc f v).length ≤ m) (h3 : m ≤ 16) (w : World) : Calls Try.prog 16 #[.agg #[.int .u8 (f : Int), .int .i32 v], .int .i64 (m : Int)] w
    (Gives w 0 (List.replicate (m - (enc f v).length) 32 ++ enc f v)) := by
  unfold Gives
  have CL := Lib.hid (fun w => rLen_any f hv w)
  have CV := Lib.hid (fun w => Valid_any f v w)
  have CP := rPut_any f hv
  unfold ln at CL
  rw [if_pos h1] at CL
  rw [h1] at CV
  rw [show pe f = 0 from if_pos h1, show pt f v = enc f v from if_pos h1] at CP
  unfold Gives at CP
  have HB := Lib.hid (enc_by (v := v) (valid_lt h1))
  have hl : (List.replicate (m - (enc f v).length) 32 ++ enc f v).length = m := by simp; omega
  rw [hl]
  clear hl
  generalize hz : enc f v = zs at *
  generalize hL : zs.length = L at *
  have HL := Lib.hid hL
  clear hL hz h1 hv
  have CP1 := Lib.hid CP
  clear CP
  have q1 : ¬ (m : Int) < (L : Int) := by omega
  have q2 : ¬ 16 < (m : Int) := by omega
  have q3 : (L : Int) ≤ (m : Int) := by omega
  have q5 : decide (m < L) = false := by simp; omega
  go_enter Try.func16, Try.ntmps16
  have KB := Lib.hid (fun w1 (g1 : (w.alloc (.cells #[.int .u8 (f : Int), .int .i32 v] 23)).grownBy w1 none) => box_cells g1)
  go_wp2_with (first
    | (go_at_call 30; (with_reducible refine (CV.out _).mono ?_); rintro e w1 ⟨rfl, g1⟩; have G1 := Lib.hid g1; obtain ⟨k0, k1⟩ := KB.out _ g1; clear g1)
    | (go_at_call 14; (with_reducible refine (CL.out w1).mono ?_); rintro e w2 ⟨rfl, g2⟩; have G2 := Lib.hid (g_trans G1.out g2); obtain ⟨k2, k3⟩ := KB.out _ G2.out; clear g2)
    | (go_at_call 14; (with_reducible refine (CL.out w2).mono ?_); rintro e w3 ⟨rfl, g3⟩; have G3 := Lib.hid (g_trans G2.out g3); clear g3 k2 k3 k0 k1))
  generalize hW0 : w.alloc (.cells #[.int .u8 (f : Int), .int .i32 v] 23) = W0 at *
  have HW := Lib.hid hW0
  clear hW0
  go_loopw [6, 7] (fun b i wr => ∃ k : Nat, k ≤ m - L ∧ i = .int .i64 ((L + k : Nat) : Int) ∧ ∃ A c, b = .slice A k c ∧ Hid (W0.grownBy wr none ∧ wr.ownsRow W0.heap.size 5 1 (.slice A k c) k (bs (List.replicate k 32)))) (fun _ i _ => m - (intOf i).toNat)
  case atStart => exact ⟨0, by omega, rfl, _, _, rfl, G3.out, own_nil' _ _⟩
  case round =>
    obtain ⟨k, hk, rfl, A, c, rfl, H⟩ := hrel
    by_cases hlt : L + k < m
    · go_wp2_with (at_builtin; refine app_one rfl (.tmp 26) (.tmp 27) rfl W0.heap.size k c 1 A ⟨wr.heap.size, 0, none⟩ (List.replicate k 32) 32 rfl rfl (H.out.2.alloc _) (cell_new _ _ _) (by omega) (by have := H.out.1.size; simp; omega) ?_; intro g5 c5 w5 o5 g5' l5; have H5 := Lib.hid (own_app (o := some (.cells #[.int .u8 32] 5)) H.out.1 H.out.2 g5' o5); clear o5 g5' l5)
      rw [rep_snoc] at H5
      go_roundw
      case rel => exact ⟨k + 1, by omega, by go_num, _, _, rfl, H5.out⟩
      case measure => simp [intOf]; omega
    · obtain rfl : k = m - L := by omega
      obtain ⟨k0, k1⟩ := KB.out wr H.out.1
      go_wp2_with (first
        | (go_at_call 12; (with_reducible refine (CP1.out _).mono ?_); rintro e w6 ⟨A6, c6, rfl, o6, g6⟩; have H6 := Lib.hid (And.intro (g_trans H.out.1 g6) (And.intro (own_keep H.out.2 g6) (OwnB.rs o6 HB.out).1)); clear o6 g6)
        | (at_builtin; refine app_bytes rfl (.tmp 34) (.tmp 35) rfl W0.heap.size (m - L) c L c6 m A A6 (List.replicate (m - L) 32) zs rfl rfl H6.out.2.1 HL.out H6.out.2.2.rd (by omega) (by omega) H6.out.1.size ?_; intro A7 c7 w7 o7 g7; have H7 := Lib.hid (own_app (o := none) H6.out.1 H6.out.2.1 g7 o7); clear o7 g7))
      go_ret2
      refine ⟨_, _, rfl, own_lower (by rw [← HW.out]; simp) (own_of H7.out.2 (by have := HL.out; simp; omega)), ?_⟩
      have := H7.out.1
      rw [← HW.out] at this
      exact g_trans (World.grownBy_alloc w _ none) this
theorem rPad_any (f : Nat) {v : Int} (hv : isW v) (n : Int) (w : World) : Calls Try.prog 16 #[.agg #[.int .u8 (f : Int), .int .i32 v], .int .i64 n] w (Gives w (pde f v n) (pd f v n)) := by
  by_cases h : pde f v n = 0
  · obtain ⟨h1, h2, h3⟩ := pde_ok h
    have := rPad_ok f hv h1 n.toNat (by omega) (by omega) w
    rwa [show ((n.toNat : Nat) : Int) = n by omega, ← h, show List.replicate (n.toNat - (enc f v).length) 32 ++ enc f v = pd f v n from (if_pos ⟨h1, h2, h3⟩).symm] at this
  · exact rPad_no f hv n h w
end Go.Proofs.Ytiblicpaeogihaa
