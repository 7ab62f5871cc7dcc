/- The chapter's examples hold. -/
import Derived.Test.YtiblicpaeogihaaLen
import Derived.Test.YtiblicpaeogihaaRget
namespace Go.Proofs.Ytiblicpaeogihaa
open Go Go.RowKit

theorem puts_any (f : Nat) {v : Int} (hv : isW v) (h : valid f = true) (w : World) : Calls Try.prog 26 #[.int .u8 (f : Int), .int .i32 v, .string (str (enc f v))] w fun e w' => e = .returned (.bool true) ∧ w.grownBy w' none := by
  have C := Put_any f hv
  rw [show pe f = 0 from if_pos h, show pt f v = enc f v from if_pos h] at C
  unfold Gives at C
  have C1 := Lib.hid C
  have HB := Lib.hid (enc_by (v := v) (valid_lt h))
  clear C h hv
  generalize enc f v = zs at *
  go_enter Try.func26, Try.ntmps26
  go_wp2_with (go_at_call 11; (with_reducible refine (C1.out _).mono ?_); rintro e w1 ⟨A1, c1, rfl, o1, g1⟩; have k1 := str_any (OwnB.rs o1 HB.out).1 _ rfl; have G1 := Lib.hid g1; clear o1 g1)
  go_ret
  exact ⟨rfl, G1.out⟩
theorem rs_four (w : World) (a b c d : Nat) (h : a < 256 ∧ b < 256 ∧ c < 256 ∧ d < 256) : RS (w.alloc (.cells #[.int .u8 (a : Int), .int .u8 (b : Int), .int .u8 (c : Int), .int .u8 (d : Int)] 5)) (some ⟨w.heap.size, 0, none⟩) 4 [a, b, c, d] :=
  rs_of_row (g := w.heap.size) (xs := [a, b, c, d]) (heap_alloc_new w _) (by simp [maxLen]) (by intro x hx; simp at hx; omega)
theorem wk_get (w : World) : Calls Try.prog 18 #[.slice (some ⟨w.heap.size, 0, none⟩) 4 4] (w.alloc (.cells #[.int .u8 32, .int .u8 32, .int .u8 69, .int .u8 153] 5)) fun e w' => e = .returned (.tuple #[.agg #[.int .u8 4, .int .i32 5], .int .i64 3, .int .i64 0]) ∧ w.grownBy w' none := by
  have h := Get_any (rs_four w 32 32 69 153 (by omega))
  unfold Gets at h
  have e : get [32, 32, 69, 153] = ⟨4, 5, 3, 0⟩ := by kernel_rfl
  rw [e] at h
  exact h.mono fun _ _ ⟨he, hg⟩ => ⟨he, g_trans (World.grownBy_alloc w _ none) hg⟩
theorem wk_puts (f : Nat) (v : Int) (z : ByteArray) (hv : isW v) (h : valid f = true) (hz : str (enc f v) = z) (w : World) : Calls Try.prog 26 #[.int .u8 (f : Int), .int .i32 v, .string z] w fun e w' => e = .returned (.bool true) ∧ w.grownBy w' none := by
  subst hz
  exact puts_any f hv h w
theorem isW_lit {a : Int} (h : (decide (-2147483648 ≤ a) && decide (a ≤ 2147483647)) = true) : isW a := by
  simp at h
  exact h
theorem wk_p1 (w : World) : Calls Try.prog 26 #[.int .u8 4, .int .i32 17, .string { data := #[33, 65] }] w fun e w' => e = .returned (.bool true) ∧ w.grownBy w' none :=
  wk_puts 4 17 _ (isW_lit (by decide)) (by decide) (by decide +kernel) w
theorem wk_p2 (w : World) : Calls Try.prog 26 #[.int .u8 4, .int .i32 (-31), .string { data := #[97, 65] }] w fun e w' => e = .returned (.bool true) ∧ w.grownBy w' none :=
  wk_puts 4 (-31) _ (isW_lit (by decide)) (by decide) (by decide +kernel) w
theorem wk_p3 (w : World) : Calls Try.prog 26 #[.int .u8 15, .int .i32 83, .string { data := #[37, 243] }] w fun e w' => e = .returned (.bool true) ∧ w.grownBy w' none :=
  wk_puts 15 83 _ (isW_lit (by decide)) (by decide) (by decide +kernel) w
theorem eql_45 (w : World) : (binOp .eql 23 (.agg #[.int .u8 4, .int .i32 5]) (.agg #[.int .u8 4, .int .i32 5])).run Try.prog w = .ok (.bool true) w := eql_iv 4 5 4 5 w
set_option maxRecDepth 100000 in
set_option maxHeartbeats 1000000 in
theorem works_any (w : World) : Calls Try.prog 17 #[] w fun e w' => e = .returned (.bool true) ∧ w.grownBy w' none := by
  have hN := eql_45
  have hG : ∀ w : World, (eqGuard .eql 23 (.tmp 18) (.tmp 19) (.agg #[.int .u8 4, .int .i32 5]) (.agg #[.int .u8 4, .int .i32 5])).run Try.prog w = .ok () w := fun w => run_eqGuard_agg w .eql _ _ _ _ _ guard_iv
  go_enter Try.func17, Try.ntmps17
  go_wp2_with (first
    | (go_at_call 18; (with_reducible refine (wk_get _).mono ?_); rintro e w1 ⟨rfl, g1⟩; have G1 := Lib.hid g1; clear g1)
    | (go_at_call 26; (with_reducible refine (wk_p1 _).mono ?_); rintro e w2 ⟨rfl, g2⟩; have G2 := Lib.hid (g_trans (g_trans G1.out (World.grownBy_alloc _ _ none)) g2); obtain ⟨k0, k1⟩ := box_cells g2; clear g2)
    | (go_at_call 26; (with_reducible refine (wk_p2 _).mono ?_); rintro e w3 ⟨rfl, g3⟩; have G3 := Lib.hid (g_trans G2.out g3); have k2 := g3.cell k0 (by simp); have k3 := g3.cell k1 (by simp); clear g3 k0 k1)
    | (go_at_call 26; (with_reducible refine (wk_p3 _).mono ?_); rintro e w4 ⟨rfl, g4⟩; have G4 := Lib.hid (g_trans G3.out g4); have k4 := g4.cell k2 (by simp); have k5 := g4.cell k3 (by simp); clear g4 k2 k3))
  go_ret
  exact ⟨rfl, G4.out⟩
end Go.Proofs.Ytiblicpaeogihaa
