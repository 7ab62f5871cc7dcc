/- The law on encodings returns true for every instruction and number. -/
import Derived.Test.YtiblicpaeogihaaLawsC
namespace Go.Proofs.Ytiblicpaeogihaa
open Go Go.RowKit

theorem index_two (x y : Int) : (∀ W : World, (Instr.index 31 (.agg #[.int .i64 x, .int .i64 y]) (.int .i64 0)).run Try.prog W = .ok (.int .i64 x) W) ∧ (∀ W : World, (Instr.index 31 (.agg #[.int .i64 x, .int .i64 y]) (.int .i64 1)).run Try.prog W = .ok (.int .i64 y) W) :=
  ⟨fun _ => by kernel_rfl, fun _ => by kernel_rfl⟩
theorem index_pair (x y : Int) (k : Nat) (hk : k < 2) (W : World) : (Instr.index 31 (.agg #[.int .i64 x, .int .i64 y]) (.int .i64 (k : Int))).run Try.prog W = .ok (.int .i64 (if k = 0 then x else y)) W := by
  obtain rfl | rfl : k = 0 ∨ k = 1 := by omega
  · exact (index_two x y).1 W
  · exact (index_two x y).2 W
set_option maxRecDepth 100000 in
set_option maxHeartbeats 4000000 in
theorem puts_law (f : Nat) {v : Int} (hv : isW v) (n : Int) (w : World) : Calls Try.prog 3 #[.agg #[.int .u8 (f : Int), .int .i32 v], .int .i64 n] w fun e w' => e = .returned (.bool true) ∧ w.grownBy w' none := by
  have CP := Lib.hid (fun w => Put_any f hv w)
  have CR := Lib.hid (fun w => rPut_any f hv w)
  have CL := Lib.hid (fun w => Len_any f hv w)
  have CM := Lib.hid (fun w => rLen_any f hv w)
  have CD := Lib.hid (fun k w => Pad_any f hv k w)
  have CE := Lib.hid (fun k w => rPad_any f hv k w)
  have HB := Lib.hid (pt_by f v)
  have HD := Lib.hid (fun k => pd_by f v k)
  unfold Gives at CP CR CD CE
  generalize pt f v = zs at *
  generalize pe f = E at *
  generalize ln f v = L at *
  clear hv
  go_enter Try.func3, Try.ntmps3
  go_wp2_with (first
    | (go_at_call 11; (with_reducible refine (CP.out _).mono ?_); rintro e w1 ⟨A1, c1, rfl, o1, g1⟩; have G1 := Lib.hid (And.intro (And.intro (g_trans (World.grownBy_alloc w _ none) g1) ((Box.new w _ _).kept0 g1)) (OwnB.rs o1 HB.out).1); clear o1 g1; obtain ⟨k0, k1, k2, k3⟩ := G1.out.1.2.cells)
    | (go_at_call 12; (with_reducible refine (CR.out _).mono ?_); rintro e w2 ⟨A2, c2, rfl, o2, g2⟩; have G2 := Lib.hid (And.intro (And.intro (g_trans G1.out.1.1 g2) (G1.out.1.2.kept0 g2)) (And.intro (G1.out.2.kept0 g2) (OwnB.rs o2 HB.out).1)); clear o2 g2 k0 k1 k2 k3; obtain ⟨k0, k1, k2, k3⟩ := G2.out.1.2.cells))
  have S0 := Lib.hid (fun (w' : World) (g : w2.grownBy w' none) => And.intro (str_any (G2.out.2.1.kept0 g) _ rfl) (str_any (G2.out.2.2.kept0 g) _ rfl))
  obtain ⟨s1, s2⟩ := S0.out w2 (World.grownBy.refl _ _)
  obtain ⟨s3, s4⟩ := S0.out w2.drew (g_drew (World.grownBy.refl _ _) 1)
  generalize str zs = z at *
  go_region_held3 (fun w' => (w'.cell? ⟨w.heap.size, 0, none⟩ = some (.int .u8 (f : Int)) ∧ w'.cell? ⟨w.heap.size, 1, none⟩ = some (.int .i32 v)) ∧
      ((convert 24 9 (.slice A1 zs.length c1)).run Try.prog w' = .ok (.string z) w' ∧ (convert 24 9 (.slice A2 zs.length c2)).run Try.prog w' = .ok (.string z) w'))
    (first | (exact ⟨⟨k0, k1⟩, s1, s2⟩) | (exact ⟨⟨k0, k1⟩, s3, s4⟩) | (exact ⟨⟨k6, k7⟩, s5, s6⟩) | go_keep)
    (first
      | (go_at_call 13; (with_reducible refine (CL.out _).mono ?_); rintro e w3 ⟨rfl, g3⟩; have G3 := Lib.hid (g_trans (g_drew (World.grownBy.refl w2 none) 1) g3); obtain ⟨k6, k7, _, _⟩ := (G2.out.1.2.kept0 G3.out).cells; obtain ⟨s5, s6⟩ := S0.out w3 G3.out; clear g3)
      | (go_at_call 14; (with_reducible refine (CM.out _).mono ?_); rintro e w4 ⟨rfl, g4⟩; have G4 := Lib.hid (g_trans G3.out g4); obtain ⟨k8, k9, _, _⟩ := (G2.out.1.2.kept0 G4.out).cells; obtain ⟨s7, s8⟩ := S0.out w4 G4.out; clear g4))
  clear s1 s2 s3 s4 s5 s6 s7 s8 k0 k1 k2 k3 k6 k7 k8 k9
  have G5 := Lib.hid (And.intro (g_trans G2.out.1.1 G4.out) (G2.out.1.2.kept0 G4.out))
  go_wp2
  generalize bits .and .i64 n 31 = n2 at *
  go_loopw [46] (fun i wr => ∃ k : Nat, k ≤ 2 ∧ i = .int .i64 k ∧ Hid (w.grownBy wr none ∧ Box wr w.heap.size (.int .u8 (f : Int)) (.int .i32 v))) (fun i _ => 2 - (intOf i).toNat)
  case atStart => exact ⟨0, by omega, rfl, G5.out⟩
  case round =>
    obtain ⟨k, hk, rfl, H⟩ := hrel
    by_cases hlt : k < 2
    · have hi := index_pair n n2 k hlt
      generalize (if k = 0 then n else n2) = q at *
      have CD1 := Lib.hid (fun w => CD.out q w)
      have CE1 := Lib.hid (fun w => CE.out q w)
      have HQ := Lib.hid (HD.out q)
      generalize pd f v q = ys at *
      generalize pde f v q = D at *
      obtain ⟨k0, k1, k2, k3⟩ := H.out.2.cells
      go_wp2_with (first
        | (go_at_call 15; (with_reducible refine (CD1.out _).mono ?_); rintro e w6 ⟨A6, c6, rfl, o6, g6⟩; have G6 := Lib.hid (And.intro (And.intro (g_trans H.out.1 g6) (H.out.2.kept0 g6)) (OwnB.rs o6 HQ.out).1); clear o6 g6 k0 k1 k2 k3; obtain ⟨k0, k1, k2, k3⟩ := G6.out.1.2.cells)
        | (go_at_call 16; (with_reducible refine (CE1.out _).mono ?_); rintro e w7 ⟨A7, c7, rfl, o7, g7⟩; have G7 := Lib.hid (And.intro (And.intro (g_trans G6.out.1.1 g7) (G6.out.1.2.kept0 g7)) (And.intro (G6.out.2.kept0 g7) (OwnB.rs o7 HQ.out).1)); clear o7 g7 k0 k1 k2 k3; have s1 := str_any G7.out.2.1 _ rfl; have s2 := str_any G7.out.2.2 _ rfl))
      go_roundw
      case rel => exact ⟨k + 1, by omega, by go_num, G7.out.1⟩
      case measure => simp [intOf]; omega
    · obtain rfl : k = 2 := by omega
      go_wp2_with (go_at_call 17; (with_reducible refine (works_any _).mono ?_); rintro e w8 ⟨rfl, g8⟩; have G8 := Lib.hid (g_trans H.out.1 g8); clear g8)
      go_ret
      exact ⟨rfl, G8.out⟩
theorem walkCodePuts (cs : List Value) (a1 : Int) (w : World) (w0 : IsI w cs) (_w1 : (Lit.int .i64 a1).wf = true) : Calls Try.prog 3 #[.agg cs.toArray, .int .i64 a1] w fun e w' => e = .returned (.bool true) ∧ Below w.heap.size w w' := by
  obtain ⟨f, v, rfl, _, hv⟩ := w0
  exact (puts_law f hv a1 w).mono fun _ _ ⟨he, hg⟩ => ⟨he, g_below0 hg⟩
end Go.Proofs.Ytiblicpaeogihaa
