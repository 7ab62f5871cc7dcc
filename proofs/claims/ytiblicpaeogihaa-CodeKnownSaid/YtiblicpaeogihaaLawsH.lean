/- The law on the chapter's examples and limits returns true. -/
import Derived.Test.YtiblicpaeogihaaDrawn
namespace Go.Proofs.Ytiblicpaeogihaa
open Go Go.RowKit

set_option maxRecDepth 100000 in
set_option maxHeartbeats 40000000 in
theorem known_law (w : World) : Calls Try.prog 10 #[] w fun e w' => e = .returned (.bool true) ∧ w.grownBy w' none := by
  obtain ⟨N, hN⟩ : ∃ N : Nat, N = 32768 := ⟨_, rfl⟩
  obtain ⟨M, hM⟩ : ∃ M : Nat, M = 32769 := ⟨_, rfl⟩
  obtain ⟨K, hK⟩ : ∃ K : Nat, K = 15 := ⟨_, rfl⟩
  have mM := run_zeros M (by omega)
  rw [show (M : Int) = 32769 by omega] at mM
  have mN := run_zeros N (by omega)
  rw [show (N : Int) = 32768 by omega] at mN
  have e1 : ((N : Int) == 32768) = true := by rw [hN]; rfl
  have HN := Lib.hid hN
  have HM := Lib.hid hM
  have HK := Lib.hid hK
  clear hN hM hK
  have hE := eql_45
  have hG : ∀ w : World, (eqGuard .eql 23 (.tmp 161) (.tmp 162) (.agg #[.int .u8 4, .int .i32 5]) (.agg #[.int .u8 4, .int .i32 5])).run Try.prog w = .ok () w := fun w => run_eqGuard_agg w .eql _ _ _ _ _ guard_iv
  have G0 := Lib.hid (World.grownBy.refl (w.alloc (.cells #[.int .u8 4, .int .i32 5] 23)) none)
  go_enter Try.func10, Try.ntmps10
  go_wp2_with (first
    | (go_at_call 26; (with_reducible refine (kn_p1 _).mono ?_); rintro e w1 ⟨rfl, g1⟩; have G1 := Lib.hid (g_trans G0.out g1); clear g1)
    | (go_at_call 26; (with_reducible refine (kn_p2 _).mono ?_); rintro e w2 ⟨rfl, g2⟩; have G2 := Lib.hid (g_trans G1.out g2); clear g2)
    | (go_at_call 26; (with_reducible refine (kn_p3 _).mono ?_); rintro e w3 ⟨rfl, g3⟩; have G3 := Lib.hid (g_trans G2.out g3); clear g3)
    | (go_at_call 26; (with_reducible refine (kn_p4 _).mono ?_); rintro e w4 ⟨rfl, g4⟩; have G4 := Lib.hid (g_trans G3.out g4); clear g4)
    | (go_at_call 26; (with_reducible refine (kn_p5 _).mono ?_); rintro e w5 ⟨rfl, g5⟩; have G5 := Lib.hid (g_trans G4.out g5); clear g5)
    | (go_at_call 26; (with_reducible refine (kn_p6 _).mono ?_); rintro e w6 ⟨rfl, g6⟩; have G6 := Lib.hid (g_trans G5.out g6); clear g6)
    | (go_at_call 26; (with_reducible refine (kn_p7 _).mono ?_); rintro e w7 ⟨rfl, g7⟩; have G7 := Lib.hid (g_trans G6.out g7); clear g7)
    | (go_at_call 11; (with_reducible refine (kn_b2 _).mono ?_); rintro e w8 ⟨A8, c8, rfl, g8⟩; have G8 := Lib.hid (g_trans G7.out g8); clear g8)
    | (go_at_call 11; (with_reducible refine (kn_b16 _).mono ?_); rintro e w9 ⟨A9, c9, rfl, g9⟩; have G9 := Lib.hid (g_trans G8.out g9); clear g9; obtain ⟨k0, k1⟩ := box_cells G9.out)
    | (go_at_call 15; (with_reducible refine (kn_d3 _).mono ?_); rintro e w10 ⟨A10, c10, rfl, o10, g10⟩; have G10 := Lib.hid (And.intro (g_trans G9.out g10) o10); clear g10 o10 k0 k1; obtain ⟨k0, k1⟩ := box_cells G10.out.1)
    | (go_at_call 15; (with_reducible refine (kn_d0 _).mono ?_); rintro e w11 ⟨A11, c11, rfl, g11⟩; have G11 := Lib.hid (And.intro (g_trans G10.out.1 g11) (G10.out.2.kept0 g11)); clear g11 k0 k1; obtain ⟨k0, k1⟩ := box_cells G11.out.1)
    | (go_at_call 15; (with_reducible refine (kn_d17 _).mono ?_); rintro e w12 ⟨A12, c12, rfl, g12⟩; have G12 := Lib.hid (And.intro (g_trans G11.out.1 g12) (G11.out.2.kept0 g12)); clear g12 k0 k1)
    | (go_at_call 15; (with_reducible refine (kn_d6 _).mono ?_); rintro e w13 ⟨A13, c13, rfl, g13⟩; have G13 := Lib.hid (And.intro (g_trans G12.out.1 g13) (G12.out.2.kept0 g13)); clear g13; have s1 := kn_str G13.out.2)
    | (go_at_call 13; (with_reducible refine (kn_len _).mono ?_); rintro e w14 ⟨rfl, g14⟩; have G14 := Lib.hid (g_trans G13.out.1 g14); clear g14 s1)
    | (go_at_call 18; (with_reducible refine (kn_g1 _).mono ?_); rintro e w15 ⟨rfl, g15⟩; have G15 := Lib.hid (g_trans G14.out g15); clear g15)
    | (go_at_call 27; (with_reducible refine (make16_32 _).mono ?_); rintro e w16 ⟨A16, c16, rfl, o16, g16⟩; have G16 := Lib.hid (And.intro (g_trans (g_trans G15.out (World.grownBy_alloc _ _ none)) g16) o16); clear g16 o16)
    | (go_at_call 18; (with_reducible refine (kn_g16 G16.out.2).mono ?_); rintro e w17 ⟨rfl, g17⟩; have G17 := Lib.hid (g_trans G16.out.1 g17); clear g17)
    | (go_at_call 27; (with_reducible refine (make16_32 _).mono ?_); rintro e w18 ⟨A18, c18, rfl, o18, g18⟩; obtain ⟨b18, rfl⟩ := own_addr o18 (by omega); have G18 := Lib.hid (And.intro (g_trans (g_trans G17.out (World.grownBy_alloc _ _ none)) g18) (cut_own HK.out (own_mono o18 (g_trans G17.out (World.grownBy_alloc w17 (.cells #[.int .u8 0, .int .i32 0] 23) none)).size))); have h18 : (15 : Int) ≤ (c18 : Int) := (by have := (own_cut (k := 15) o18 (by omega) (by omega)).2; omega); have h18' := cut_run (g := b18) (c := c18) HK.out (own_cut (k := 15) o18 (by omega) (by omega)).2; clear g18 o18)
    | (at_builtin; refine app_one rfl (.tmp 142) (.tmp 143) rfl (w.alloc (.cells #[.int .u8 4, .int .i32 5] 23)).heap.size K c18 1 (some ⟨b18, 0, none⟩) ⟨w18.heap.size, 0, none⟩ (List.replicate K 32) 69 rfl rfl (G18.out.2.alloc _) (cell_new _ _ _) (by have := HK.out; omega) (by have := G18.out.1.size; simp at this ⊢; omega) ?_; intro b19 c19 w19 o19 g19 _; have G19 := Lib.hid (own_app (o := some _) G18.out.1 G18.out.2 g19 o19); clear o19 g19 h18 h18')
    | (go_at_call 18; (with_reducible refine (kn_g15 HK.out G19.out.2).mono ?_); rintro e w20 ⟨rfl, g20⟩; have G20 := Lib.hid (g_trans G19.out.1 g20); clear g20)
    | (go_at_call 18; (with_reducible refine (kn_g0 _).mono ?_); rintro e w21 ⟨rfl, g21⟩; have G21 := Lib.hid (g_trans (g_trans G20.out (World.grownBy_alloc w20 (.cells #[.int .u8 4, .int .i32 5] 23) none)) g21); obtain ⟨j0, j1⟩ := box_cells g21; have z1 : w20.heap.size < w21.heap.size := lt_of_cell j0; obtain ⟨k0, k1⟩ := box_cells G21.out; have z0 : w.heap.size < w21.heap.size := lt_of_cell k0; clear g21)
    | (go_at_call 22; (with_reducible refine (kn_a2 (by simp)).mono ?_); rintro e w22 ⟨A22, c22, rfl, o22, g22⟩; have G22 := Lib.hid (And.intro (g_trans (g_trans G21.out (World.grownBy_alloc w21 (.cells #[.int .u8 0, .int .i32 0] 23) none)) g22) o22); clear g22 o22 j0 j1 k0 k1 z0 z1)
    | (go_at_call 22; (with_reducible refine (kn_a3 _).mono ?_); rintro e w23 ⟨A23, c23, rfl, g23⟩; have G23 := Lib.hid (And.intro (g_trans G22.out.1 g23) (G22.out.2.kept0 g23)); clear g23)
    | (go_at_call 22; (with_reducible refine (kn_a0 _).mono ?_); rintro e w24 ⟨A24, c24, rfl, g24⟩; have G24 := Lib.hid (And.intro (g_trans G23.out.1 g24) (G23.out.2.kept0 g24)); clear g24)
    | (go_at_call 22; (with_reducible refine (kn_aM HM.out _).mono ?_); rintro e w25 ⟨A25, c25, rfl, g25⟩; have G25 := Lib.hid (And.intro (g_trans G24.out.1 g25) (G24.out.2.kept0 g25)); clear g25)
    | (go_at_call 22; (with_reducible refine (kn_aN HN.out _).mono ?_); rintro e w26 ⟨A26, c26, rfl, o26, g26⟩; have G26 := Lib.hid (And.intro g26 o26); obtain ⟨k0, k1⟩ := box_cells (g_trans G25.out.1 g26); clear g26 o26)
    | (at_builtin; refine app_keep (W0 := w25) rfl (.tmp 202) (.tmp 204) rfl N c26 1 A26 w26.heap.size (List.replicate N i0) 4 5 rfl rfl (g_trans G26.out.1 (World.grownBy_alloc w26 (.cells #[.int .u8 4, .int .i32 5] 23) none)) (World.ownsRow.alloc G26.out.2 _) (rep_ok N) ⟨by decide, isW_lit (by decide)⟩ (by have := HN.out; omega) (by have := HN.out; omega) (cell2_new rfl) ?_; intro A27 c27 w27 g27 o27 f27; have G27 := Lib.hid (And.intro (And.intro (g_trans G25.out.1 g27) (G25.out.2.kept0 g27)) (And.intro o27 f27)); clear g27 o27 f27 k0 k1)
    | (go_at_call 20; (with_reducible refine (kn_j1 HN.out G27.out.2.1).mono ?_); rintro e w28 ⟨A28, c28, rfl, g28⟩; have G28 := Lib.hid (And.intro (And.intro (g_trans G27.out.1.1 g28) (G27.out.1.2.kept0 g28)) (G27.out.2.2.kept0 g28)); clear g28)
    | (go_at_call 20; (with_reducible refine (kn_j2 HN.out G28.out.2).mono ?_); rintro e w29 ⟨A29, c29, rfl, g29⟩; have G29 := Lib.hid (And.intro (And.intro (g_trans G28.out.1.1 g29) (G28.out.1.2.kept0 g29)) (G28.out.2.kept0 g29)); clear g29; obtain ⟨k0, k1⟩ := box_cells G29.out.1.1))
  go_region_held3 (fun w' => w'.cell? ⟨w.heap.size, 0, none⟩ = some (.int .u8 4) ∧ w'.cell? ⟨w.heap.size, 1, none⟩ = some (.int .i32 5))
    (first | (exact ⟨k0, k1⟩) | (exact box_cells (g_trans G29.out.1.1 (by first | exact gd1 _ | exact gal (gd1 _) | exact gal (gal (gd1 _)) | exact H30.out.1 | exact gal H30.out.1 | exact H31.out.1 | exact H32.out))) | go_keep)
    (first
      | ((refine step_one (W := w29) (by rfl) (.tmp 215) (.tmp 216) (by rfl) _ N c26 A26 (List.replicate N i0) (by rfl) (by rfl) (by first | exact gal (gd1 _) | exact gal (gal (gd1 _))) (by first | exact heap_new (by simp) | exact (heap_alloc_old _ _ _ (by simp)).trans (heap_new (by simp))) (by simp) (by simp) (by have := HN.out; omega) G29.out.2 ?_; intro A30 c30 w30 g30 o30 q30; have H30 := Lib.hid (And.intro g30 (And.intro o30 q30)); clear g30 o30 q30))
      | ((refine step_two (W := w29) (by rfl) (.tmp 217) (.tmp 220) (by rfl) _ N c30 A30 (List.replicate N i0) (by rfl) (by rfl) (by first | exact H30.out.1 | exact gal H30.out.1) (by first | exact H30.out.2.1 | exact World.ownsRow.alloc H30.out.2.1 _) (by first | exact heap_new (by simp) | exact (H30.out.2.2 _ (by simp <;> omega) (by simp <;> omega)).trans (by first | exact heap_new (by simp) | exact (heap_alloc_old _ _ _ (by simp)).trans (heap_new (by simp)))) (rep_ok N) (by have := HN.out; omega) ?_; intro A31 c31 w31 g31 o31; have H31 := Lib.hid (And.intro g31 o31); clear g31 o31))
      | (go_at_call 20; (with_reducible refine (kn_j3 HN.out H31.out.2).mono ?_); rintro e w32 ⟨A32, c32, rfl, g32⟩; have H32 := Lib.hid (g_trans H31.out.1 g32); clear g32))
  all_goals
    obtain ⟨m0, m1⟩ := box_cells (g_trans G29.out.1.1 H32.out)
    go_wp2_with (first
      | (go_at_call 24; (with_reducible refine (kn_same (G29.out.1.2.kept0 H32.out)).mono ?_); rintro e w33 ⟨rfl, g33⟩; have H33 := Lib.hid (g_trans H32.out g33); clear g33)
      | (go_at_call 17; (with_reducible refine (works_any _).mono ?_); rintro e w34 ⟨rfl, g34⟩; have H34 := Lib.hid (g_trans H33.out g34); clear g34))
    go_ret
    exact ⟨rfl, g_trans (World.grownBy_alloc w _ none) (g_trans G29.out.1.1 H34.out)⟩
theorem walkCodeKnown (w : World) : Calls Try.prog 10 #[] w fun e w' => e = .returned (.bool true) ∧ Below w.heap.size w w' :=
  (known_law w).mono fun _ _ ⟨he, hg⟩ => ⟨he, g_below0 hg⟩
end Go.Proofs.Ytiblicpaeogihaa
