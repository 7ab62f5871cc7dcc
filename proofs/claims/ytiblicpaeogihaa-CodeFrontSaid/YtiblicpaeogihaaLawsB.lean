/- The law on the bytes behind an instruction returns true for every two slices of bytes. -/
import Derived.Test.YtiblicpaeogihaaLawsA
namespace Go.Proofs.Ytiblicpaeogihaa
open Go Go.RowKit

set_option maxRecDepth 100000 in
set_option maxHeartbeats 2000000 in
theorem front_no {A B : Option Addr} {L m c K k d : Nat} {ys : List Nat} {w : World} (R : RS w A c ys) (hm : m = ys.length) (hL : Cut L m 20) (hc : L ≤ c) (hK : Cut K k 10) (hd : K ≤ d) (h : (get ys).e ≠ 0) : Calls Try.prog 9 #[.slice A L c, .slice B K d] w fun e w' => e = .returned (.bool true) ∧ w.grownBy w' none := by
  have hG := get_no h
  have C : ∀ (w1 : World) (R1 : RS w1 A c ys), Calls Try.prog 18 #[.slice A m c] w1 fun e w' => e = .returned (.tuple #[.agg #[.int .u8 0, .int .i32 0], .int .i64 0, .int .i64 (get ys).e]) ∧ w1.grownBy w' none := fun w1 R1 => Get_is R1 hm hG
  have HR := Lib.hid R
  generalize (get ys).e = E at *
  have C1 := Lib.hid C
  have q1 : (L : Int) ≤ (c : Int) := by omega
  have q4 : (K : Int) ≤ (d : Int) := by omega
  have q2 : (E == 0) = false := by simpa using h
  have q3 : (E != 0) = true := by simpa using h
  have e20 : max (20 : Int) 0 = 20 := by decide
  have e10 : max (10 : Int) 0 = 10 := by decide
  clear h C R hm hG
  unfold Cut at hL hK
  obtain ⟨h20, rfl⟩ | ⟨h20, rfl⟩ := hL <;> obtain ⟨h10, rfl⟩ | ⟨h10, rfl⟩ := hK
  all_goals
    go_enter Try.func9, Try.ntmps9
    go_wp2
    go_quiet (fail)
    have GW := Lib.hid (g_drew (World.grownBy.refl w none) nq)
    generalize w.drewN nq = W at *
    go_wp2_with (first
      | (go_at_call 18; (with_reducible refine (C1.out _ (HR.out.kept0 GW.out)).mono ?_); rintro e w1 ⟨rfl, g1⟩; have G1 := Lib.hid g1; clear g1)
      | (go_at_call 17; (with_reducible refine (works_any _).mono ?_); rintro e w2 ⟨rfl, g2⟩; have G2 := Lib.hid (g_trans GW.out (g_trans (g_trans G1.out (World.grownBy_alloc _ _ none)) g2)); clear g2))
    go_ret
    exact ⟨rfl, G2.out⟩
theorem front_facts {ys : List Nat} (h : (get ys).e = 0) (zs : List Nat) : get (ys.take (get ys).n ++ zs) = ⟨(get ys).fn, (get ys).arg, (get ys).n, 0⟩ ∧ get (ys.take ((get ys).n - 1)) = ⟨0, 0, 0, 40⟩ := by
  have := gt_front (m := 16) (o := 0) (k := 0) (xs := ys) h zs
  rw [Nat.sub_zero, Nat.sub_zero] at this
  exact ⟨this.1.trans (get_ok h), this.2⟩
theorem own_lit2 (w : World) (g : Nat) (h : g = w.heap.size) : (w.alloc (.cells #[] 5)).ownsRow w.heap.size 5 1 (.slice (some ⟨g, 0, none⟩) 0 0) 0 (bs []) := by subst h; exact own_lit w
theorem front_g {w w1 : World} {o o' : Obj} (h : w.grownBy w1 none) : w.grownBy ((w1.alloc o).alloc o') none := g_trans (g_trans h (World.grownBy_alloc _ _ none)) (World.grownBy_alloc _ _ none)
theorem front_len {ys zs : List Nat} {n k : Nat} (h : (ys.take n).length = n) (hk : zs.length = k) : n + k = ([] ++ ys.take n ++ zs).length := by rw [List.nil_append, List.length_append, h, hk]
theorem front_by {ys zs : List Nat} {n : Nat} (h : BY ys) (k : BY zs) : BY ([] ++ ys.take n ++ zs) := by
  intro x hx
  simp only [List.nil_append, List.mem_append] at hx
  rcases hx with hx | hx
  · exact h x (List.mem_of_mem_take hx)
  · exact k x hx
set_option maxRecDepth 100000 in
set_option maxHeartbeats 4000000 in
theorem front_yes {A B : Option Addr} {L m c K k d : Nat} {ys zs : List Nat} {w : World} (R : RS w A c ys) (S : RS w B d zs) (hm : m = ys.length) (hk : zs.length = k) (hL : Cut L m 20) (hc : L ≤ c) (hK : Cut K k 10) (hd : K ≤ d) (h : (get ys).e = 0) : Calls Try.prog 9 #[.slice A L c, .slice B K d] w fun e w' => e = .returned (.bool true) ∧ w.grownBy w' none := by
  obtain ⟨k1, k2, k3, k4, _⟩ := get_word h R.by_
  obtain ⟨F1, F2⟩ := front_facts h zs
  have hG := get_ok h
  have HR := Lib.hid R
  have HS := Lib.hid S
  have HK := Lib.hid hk
  have hmx := R.mx
  have hmx2 := S.mx
  unfold maxLen at hmx hmx2
  rw [← hm] at k4
  generalize (get ys).fn = f at *
  generalize (get ys).arg = v at *
  generalize (get ys).n = n at *
  have hml : m ≤ 20 ∧ k ≤ 10 ∧ m ≤ L ∧ k ≤ K := by unfold Cut at hL hK; omega
  have hl1 : (ys.take n).length = n := by simp; omega
  have hl2 : (ys.take (n - 1)).length = n - 1 := by simp; omega
  have C1 := Lib.hid (fun (w1 : World) (R1 : RS w1 A c ys) => Get_is R1 hm hG)
  have C2 := Lib.hid (fun (w1 : World) (A1 : Option Addr) (c1 : Nat) (R1 : RS w1 A1 c1 (ys.take n ++ zs)) => Get_is (m := n + k) R1 (by rw [List.length_append, hl1, hk]) F1)
  have C3 : ∀ (w1 : World) (R1 : RS w1 A c ys), Calls Try.prog 18 #[.slice A (n - 1) c] w1 fun e w' => e = .returned (.tuple #[.agg #[.int .u8 0, .int .i32 0], .int .i64 0, .int .i64 40]) ∧ w1.grownBy w' none := fun w1 R1 => Get_is (R1.take (n - 1)) hl2.symm F2
  have C3 := Lib.hid C3
  have HL1 := Lib.hid hl1
  have HM := Lib.hid hml
  have HT := Lib.hid (fun (w1 : World) (R1 : RS w1 A c ys) => R1.take n)
  have q1 : (L : Int) ≤ (c : Int) := by omega
  have q4 : (K : Int) ≤ (d : Int) := by omega
  have q5 : (n : Int) ≤ (m : Int) := by omega
  have q6 : (1 : Int) ≤ (n : Int) := by omega
  have q7 : ((n : Int) - 1).toNat = n - 1 := by omega
  have q8 : (n : Int) ≤ (c : Int) := by omega
  have hN : ∀ w : World, (binOp .eql 23 (.agg #[.int .u8 (f : Int), .int .i32 v]) (.agg #[.int .u8 (f : Int), .int .i32 v])).run Try.prog w = .ok (.bool true) w := fun w => by rw [eql_iv]; simp
  have hG : ∀ w : World, (eqGuard .eql 23 (.tmp 62) (.tmp 63) (.agg #[.int .u8 (f : Int), .int .i32 v]) (.agg #[.int .u8 (f : Int), .int .i32 v])).run Try.prog w = .ok () w := fun w => run_eqGuard_agg w .eql _ _ _ _ _ guard_iv
  have e20 : max (20 : Int) 0 = 20 := by decide
  have e10 : max (10 : Int) 0 = 10 := by decide
  clear h R S hm hk k1 k2 k3 k4 F1 F2 hml hl1 hl2
  unfold Cut at hL hK
  obtain ⟨h20, rfl⟩ | ⟨h20, rfl⟩ := hL <;> obtain ⟨h10, h11⟩ | ⟨h10, h11⟩ := hK
  · subst h11
    go_enter Try.func9, Try.ntmps9
    go_wp2
    go_quiet (fail)
    have GW := Lib.hid (g_drew (World.grownBy.refl w none) nq)
    generalize w.drewN nq = W at *
    go_wp2_with (first
      | (go_at_call 18; (with_reducible refine (C1.out _ (HR.out.kept0 GW.out)).mono ?_); rintro e w1 ⟨rfl, g1⟩; have G1 := Lib.hid (g_trans GW.out g1); clear g1)
      | (at_builtin; refine app_bytes rfl (.tmp 42) (.tmp 45) rfl (w1.alloc (.cells #[.int .u8 (f : Int), .int .i32 v] 23)).heap.size 0 0 n c n (some ⟨w1.heap.size + 1, 0, none⟩) A [] (ys.take n) rfl rfl (own_lit2 _ _ (by simp)) HL1.out (HT.out _ (HR.out.kept0 (front_g G1.out))).rd (by omega) (by have := HM.out; omega) (by simp) ?_; intro A2 c2 w2 o2 g2; have H2 := Lib.hid (own_app (o := none) (World.grownBy_alloc _ _ none) (own_lit2 _ _ (by simp)) g2 o2); clear o2 g2)
      | (at_builtin; refine app_bytes rfl (.tmp 46) (.tmp 47) rfl (w1.alloc (.cells #[.int .u8 (f : Int), .int .i32 v] 23)).heap.size n c2 k d (n + k) A2 B ([] ++ ys.take n) zs rfl rfl H2.out.2 HK.out (HS.out.kept0 (g_trans (g_trans G1.out (World.grownBy_alloc _ _ none)) H2.out.1)).rd rfl (by have := HM.out; omega) H2.out.1.size ?_; intro A3 c3 w3 o3 g3; have H3 := Lib.hid (own_app (o := none) H2.out.1 H2.out.2 g3 o3); clear o3 g3)
      | (go_at_call 18; (with_reducible refine (C2.out _ _ _ (rs_of_own (w := w1.alloc (.cells #[.int .u8 (f : Int), .int .i32 v] 23)) H3.out.2 (front_len HL1.out HK.out) (front_by HR.out.by_ HS.out.by_)).1).mono ?_); rintro e w4 ⟨rfl, g4⟩; have G4 := Lib.hid (g_trans H3.out.1 g4); clear g4; obtain ⟨k0, k1⟩ := box_cells G4.out; have z4 : w1.heap.size < w4.heap.size := lt_of_cell k0)
      | (go_at_call 18; (with_reducible refine (C3.out _ (HR.out.kept0 (g_trans (g_trans (g_trans G1.out (World.grownBy_alloc _ _ none)) G4.out) (World.grownBy_alloc _ _ none)))).mono ?_); rintro e w5 ⟨rfl, g5⟩; obtain ⟨k2, k3⟩ := box_cells g5; have k4 := g5.cell (World.grownBy_alloc _ _ none |>.cell k0 (by simp)) (by simp); have k5 := g5.cell (World.grownBy_alloc _ _ none |>.cell k1 (by simp)) (by simp); have z5 : w1.heap.size < w5.heap.size := lt_of_cell k4; have z6 : w4.heap.size < w5.heap.size := lt_of_cell k2; have G5 := Lib.hid (g_trans (g_trans (g_trans (g_trans G1.out (World.grownBy_alloc _ _ none)) G4.out) (World.grownBy_alloc _ _ none)) g5); clear g5 k0 k1 z4)
      | (go_at_call 17; (with_reducible refine (works_any _).mono ?_); rintro e w6 ⟨rfl, g6⟩; have G6 := Lib.hid (g_trans (g_trans G5.out (World.grownBy_alloc _ _ none)) g6); clear g6))
    go_ret
    exact ⟨rfl, G6.out⟩
  · have H11 := Lib.hid h11
    clear h11
    go_enter Try.func9, Try.ntmps9
    go_wp2
    go_quiet (fail)
    rw [show Value.slice B 10 d = Value.slice B k d by rw [H11.out]]
    have GW := Lib.hid (g_drew (World.grownBy.refl w none) nq)
    generalize w.drewN nq = W at *
    go_wp2_with (first
      | (go_at_call 18; (with_reducible refine (C1.out _ (HR.out.kept0 GW.out)).mono ?_); rintro e w1 ⟨rfl, g1⟩; have G1 := Lib.hid (g_trans GW.out g1); clear g1)
      | (at_builtin; refine app_bytes rfl (.tmp 42) (.tmp 45) rfl (w1.alloc (.cells #[.int .u8 (f : Int), .int .i32 v] 23)).heap.size 0 0 n c n (some ⟨w1.heap.size + 1, 0, none⟩) A [] (ys.take n) rfl rfl (own_lit2 _ _ (by simp)) HL1.out (HT.out _ (HR.out.kept0 (front_g G1.out))).rd (by omega) (by have := HM.out; omega) (by simp) ?_; intro A2 c2 w2 o2 g2; have H2 := Lib.hid (own_app (o := none) (World.grownBy_alloc _ _ none) (own_lit2 _ _ (by simp)) g2 o2); clear o2 g2)
      | (at_builtin; refine app_bytes rfl (.tmp 46) (.tmp 47) rfl (w1.alloc (.cells #[.int .u8 (f : Int), .int .i32 v] 23)).heap.size n c2 k d (n + k) A2 B ([] ++ ys.take n) zs rfl rfl H2.out.2 HK.out (HS.out.kept0 (g_trans (g_trans G1.out (World.grownBy_alloc _ _ none)) H2.out.1)).rd rfl (by have := HM.out; omega) H2.out.1.size ?_; intro A3 c3 w3 o3 g3; have H3 := Lib.hid (own_app (o := none) H2.out.1 H2.out.2 g3 o3); clear o3 g3)
      | (go_at_call 18; (with_reducible refine (C2.out _ _ _ (rs_of_own (w := w1.alloc (.cells #[.int .u8 (f : Int), .int .i32 v] 23)) H3.out.2 (front_len HL1.out HK.out) (front_by HR.out.by_ HS.out.by_)).1).mono ?_); rintro e w4 ⟨rfl, g4⟩; have G4 := Lib.hid (g_trans H3.out.1 g4); clear g4; obtain ⟨k0, k1⟩ := box_cells G4.out; have z4 : w1.heap.size < w4.heap.size := lt_of_cell k0)
      | (go_at_call 18; (with_reducible refine (C3.out _ (HR.out.kept0 (g_trans (g_trans (g_trans G1.out (World.grownBy_alloc _ _ none)) G4.out) (World.grownBy_alloc _ _ none)))).mono ?_); rintro e w5 ⟨rfl, g5⟩; obtain ⟨k2, k3⟩ := box_cells g5; have k4 := g5.cell (World.grownBy_alloc _ _ none |>.cell k0 (by simp)) (by simp); have k5 := g5.cell (World.grownBy_alloc _ _ none |>.cell k1 (by simp)) (by simp); have z5 : w1.heap.size < w5.heap.size := lt_of_cell k4; have z6 : w4.heap.size < w5.heap.size := lt_of_cell k2; have G5 := Lib.hid (g_trans (g_trans (g_trans (g_trans G1.out (World.grownBy_alloc _ _ none)) G4.out) (World.grownBy_alloc _ _ none)) g5); clear g5 k0 k1 z4)
      | (go_at_call 17; (with_reducible refine (works_any _).mono ?_); rintro e w6 ⟨rfl, g6⟩; have G6 := Lib.hid (g_trans (g_trans G5.out (World.grownBy_alloc _ _ none)) g6); clear g6))
    go_ret
    exact ⟨rfl, G6.out⟩
  · subst h11
    go_enter Try.func9, Try.ntmps9
    go_wp2
    go_quiet (fail)
    have GW := Lib.hid (g_drew (World.grownBy.refl w none) nq)
    generalize w.drewN nq = W at *
    go_wp2_with (first
      | (go_at_call 18; (with_reducible refine (C1.out _ (HR.out.kept0 GW.out)).mono ?_); rintro e w1 ⟨rfl, g1⟩; have G1 := Lib.hid (g_trans GW.out g1); clear g1)
      | (at_builtin; refine app_bytes rfl (.tmp 42) (.tmp 45) rfl (w1.alloc (.cells #[.int .u8 (f : Int), .int .i32 v] 23)).heap.size 0 0 n c n (some ⟨w1.heap.size + 1, 0, none⟩) A [] (ys.take n) rfl rfl (own_lit2 _ _ (by simp)) HL1.out (HT.out _ (HR.out.kept0 (front_g G1.out))).rd (by omega) (by have := HM.out; omega) (by simp) ?_; intro A2 c2 w2 o2 g2; have H2 := Lib.hid (own_app (o := none) (World.grownBy_alloc _ _ none) (own_lit2 _ _ (by simp)) g2 o2); clear o2 g2)
      | (at_builtin; refine app_bytes rfl (.tmp 46) (.tmp 47) rfl (w1.alloc (.cells #[.int .u8 (f : Int), .int .i32 v] 23)).heap.size n c2 k d (n + k) A2 B ([] ++ ys.take n) zs rfl rfl H2.out.2 HK.out (HS.out.kept0 (g_trans (g_trans G1.out (World.grownBy_alloc _ _ none)) H2.out.1)).rd rfl (by have := HM.out; omega) H2.out.1.size ?_; intro A3 c3 w3 o3 g3; have H3 := Lib.hid (own_app (o := none) H2.out.1 H2.out.2 g3 o3); clear o3 g3)
      | (go_at_call 18; (with_reducible refine (C2.out _ _ _ (rs_of_own (w := w1.alloc (.cells #[.int .u8 (f : Int), .int .i32 v] 23)) H3.out.2 (front_len HL1.out HK.out) (front_by HR.out.by_ HS.out.by_)).1).mono ?_); rintro e w4 ⟨rfl, g4⟩; have G4 := Lib.hid (g_trans H3.out.1 g4); clear g4; obtain ⟨k0, k1⟩ := box_cells G4.out; have z4 : w1.heap.size < w4.heap.size := lt_of_cell k0)
      | (go_at_call 18; (with_reducible refine (C3.out _ (HR.out.kept0 (g_trans (g_trans (g_trans G1.out (World.grownBy_alloc _ _ none)) G4.out) (World.grownBy_alloc _ _ none)))).mono ?_); rintro e w5 ⟨rfl, g5⟩; obtain ⟨k2, k3⟩ := box_cells g5; have k4 := g5.cell (World.grownBy_alloc _ _ none |>.cell k0 (by simp)) (by simp); have k5 := g5.cell (World.grownBy_alloc _ _ none |>.cell k1 (by simp)) (by simp); have z5 : w1.heap.size < w5.heap.size := lt_of_cell k4; have z6 : w4.heap.size < w5.heap.size := lt_of_cell k2; have G5 := Lib.hid (g_trans (g_trans (g_trans (g_trans G1.out (World.grownBy_alloc _ _ none)) G4.out) (World.grownBy_alloc _ _ none)) g5); clear g5 k0 k1 z4)
      | (go_at_call 17; (with_reducible refine (works_any _).mono ?_); rintro e w6 ⟨rfl, g6⟩; have G6 := Lib.hid (g_trans (g_trans G5.out (World.grownBy_alloc _ _ none)) g6); clear g6))
    go_ret
    exact ⟨rfl, G6.out⟩
  · have H11 := Lib.hid h11
    clear h11
    go_enter Try.func9, Try.ntmps9
    go_wp2
    go_quiet (fail)
    rw [show Value.slice B 10 d = Value.slice B k d by rw [H11.out]]
    have GW := Lib.hid (g_drew (World.grownBy.refl w none) nq)
    generalize w.drewN nq = W at *
    go_wp2_with (first
      | (go_at_call 18; (with_reducible refine (C1.out _ (HR.out.kept0 GW.out)).mono ?_); rintro e w1 ⟨rfl, g1⟩; have G1 := Lib.hid (g_trans GW.out g1); clear g1)
      | (at_builtin; refine app_bytes rfl (.tmp 42) (.tmp 45) rfl (w1.alloc (.cells #[.int .u8 (f : Int), .int .i32 v] 23)).heap.size 0 0 n c n (some ⟨w1.heap.size + 1, 0, none⟩) A [] (ys.take n) rfl rfl (own_lit2 _ _ (by simp)) HL1.out (HT.out _ (HR.out.kept0 (front_g G1.out))).rd (by omega) (by have := HM.out; omega) (by simp) ?_; intro A2 c2 w2 o2 g2; have H2 := Lib.hid (own_app (o := none) (World.grownBy_alloc _ _ none) (own_lit2 _ _ (by simp)) g2 o2); clear o2 g2)
      | (at_builtin; refine app_bytes rfl (.tmp 46) (.tmp 47) rfl (w1.alloc (.cells #[.int .u8 (f : Int), .int .i32 v] 23)).heap.size n c2 k d (n + k) A2 B ([] ++ ys.take n) zs rfl rfl H2.out.2 HK.out (HS.out.kept0 (g_trans (g_trans G1.out (World.grownBy_alloc _ _ none)) H2.out.1)).rd rfl (by have := HM.out; omega) H2.out.1.size ?_; intro A3 c3 w3 o3 g3; have H3 := Lib.hid (own_app (o := none) H2.out.1 H2.out.2 g3 o3); clear o3 g3)
      | (go_at_call 18; (with_reducible refine (C2.out _ _ _ (rs_of_own (w := w1.alloc (.cells #[.int .u8 (f : Int), .int .i32 v] 23)) H3.out.2 (front_len HL1.out HK.out) (front_by HR.out.by_ HS.out.by_)).1).mono ?_); rintro e w4 ⟨rfl, g4⟩; have G4 := Lib.hid (g_trans H3.out.1 g4); clear g4; obtain ⟨k0, k1⟩ := box_cells G4.out; have z4 : w1.heap.size < w4.heap.size := lt_of_cell k0)
      | (go_at_call 18; (with_reducible refine (C3.out _ (HR.out.kept0 (g_trans (g_trans (g_trans G1.out (World.grownBy_alloc _ _ none)) G4.out) (World.grownBy_alloc _ _ none)))).mono ?_); rintro e w5 ⟨rfl, g5⟩; obtain ⟨k2, k3⟩ := box_cells g5; have k4 := g5.cell (World.grownBy_alloc _ _ none |>.cell k0 (by simp)) (by simp); have k5 := g5.cell (World.grownBy_alloc _ _ none |>.cell k1 (by simp)) (by simp); have z5 : w1.heap.size < w5.heap.size := lt_of_cell k4; have z6 : w4.heap.size < w5.heap.size := lt_of_cell k2; have G5 := Lib.hid (g_trans (g_trans (g_trans (g_trans G1.out (World.grownBy_alloc _ _ none)) G4.out) (World.grownBy_alloc _ _ none)) g5); clear g5 k0 k1 z4)
      | (go_at_call 17; (with_reducible refine (works_any _).mono ?_); rintro e w6 ⟨rfl, g6⟩; have G6 := Lib.hid (g_trans (g_trans G5.out (World.grownBy_alloc _ _ none)) g6); clear g6))
    go_ret
    exact ⟨rfl, G6.out⟩
theorem walkCodeFront (a0 : Option Addr) (len0 cap0 : Nat) (z0 : List Int) (a1 : Option Addr) (len1 cap1 : Nat) (z1 : List Int) (w : World) (w0 : Came w a0 len0 cap0 z0) (w1 : Came w a1 len1 cap1 z1) :
    Calls Try.prog 9 #[.slice a0 len0 cap0, .slice a1 len1 cap1] w fun e w' => e = .returned (.bool true) ∧ Below w.heap.size w w' := by
  obtain ⟨xs, rfl, R, _⟩ := w0.rs
  obtain ⟨ys, rfl, S, _⟩ := w1.rs
  by_cases h : (get (xs.take 20)).e = 0
  · exact (front_yes (R.take 20) (S.take 10) (cut_ys 20) (cut_ys 10).symm (cut_of _ _) R.le (cut_of _ _) S.le h).mono fun _ _ ⟨he, hg⟩ => ⟨he, g_below0 hg⟩
  · exact (front_no (R.take 20) (cut_ys 20) (cut_of _ _) R.le (cut_of _ _) S.le h).mono fun _ _ ⟨he, hg⟩ => ⟨he, g_below0 hg⟩
end Go.Proofs.Ytiblicpaeogihaa
