/- The law on padded instructions returns true for every instruction and number. -/
import Derived.Test.YtiblicpaeogihaaFix
namespace Go.Proofs.Ytiblicpaeogihaa
open Go Go.RowKit

/-- A struct's box. -/
def Box (w : World) (k : Nat) (a b : Value) : Prop := w.heap[k]? = some (.cells #[a, b] 23 (0, 0))
theorem Box.new (w : World) (a b : Value) : Box (w.alloc (.cells #[a, b] 23)) w.heap.size a b := heap_alloc_new w _
theorem Box.kept {w w' : World} {k : Nat} {a b : Value} {r : Option Nat} (h : Box w k a b) (g : w.grownBy w' r) (hr : some k ≠ r) : Box w' k a b := (g.block k (heap_lt h) hr).trans h
theorem Box.kept0 {w w' : World} {k : Nat} {a b : Value} (h : Box w k a b) (g : w.grownBy w' none) : Box w' k a b := h.kept g (by simp)
theorem Box.cells {w : World} {k : Nat} {a b : Value} (h : Box w k a b) : w.cell? ⟨k, 0, none⟩ = some a ∧ w.cell? ⟨k, 1, none⟩ = some b ∧ w.frozen? ⟨k, 0, none⟩ = false ∧ w.frozen? ⟨k, 1, none⟩ = false := by
  refine ⟨?_, ?_, ?_, ?_⟩
  · rw [cell_of_row _ _ _ _ _ _ h]; rfl
  · rw [cell_of_row _ _ _ _ _ _ h]; rfl
  · simp [World.frozen?, show w.heap[k]? = _ from h]
  · simp [World.frozen?, show w.heap[k]? = _ from h]
theorem Box.set {w : World} {k : Nat} {a b : Value} (h : Box w k a b) (a' b' : Value) : Box ((w.setCell ⟨k, 0, none⟩ a').setCell ⟨k, 1, none⟩ b') k a' b' := by
  have h' : w.heap[k]? = some (.cells #[a, b] 23 (0, 0)) := h
  simp [Box, World.setCell, Array.getElem?_modify, h']
theorem box_put {w w1 : World} {a b a' b' : Value} (g : (w.alloc (.cells #[a, b] 23)).grownBy w1 none) : w.grownBy ((w1.setCell ⟨w.heap.size, 0, none⟩ a').setCell ⟨w.heap.size, 1, none⟩ b') none :=
  g_new (g_new (g_trans (World.grownBy_alloc w _ none) g) (g_set w1 w.heap.size 0 a') (Nat.le_refl _)) (g_set _ w.heap.size 1 b') (Nat.le_refl _)
theorem RS.drop {w : World} {A : Option Addr} {c : Nat} {xs : List Nat} (h : RS w A c xs) (m : Nat) : RS w (A.map fun x => x.add m) (c - m) (xs.drop m) :=
  ⟨by have := h.le; simp; omega, by have := h.mx; omega, fun x hx => h.by_ x (List.mem_of_mem_drop hx), fun j hj => by
    simp only [List.length_drop] at hj
    obtain ⟨ad, rfl, hc⟩ := h.rd (m + j) (by omega)
    refine ⟨_, rfl, ?_⟩
    rw [add_add_, hc]
    unfold bc
    simp only [List.getD_eq_getElem?_getD]
    rw [List.getElem?_drop]⟩
set_option maxRecDepth 100000 in
set_option maxHeartbeats 4000000 in
theorem pads_at (f0 n : Nat) (hn : (n : Int) < 256) {v : Int} (hv : isW v) (w : World) : Calls Try.prog 8 #[.agg #[.int .u8 (f0 : Int), .int .i32 v], .int .u8 (n : Int)] w fun e w' => e = .returned (.bool true) ∧ w.grownBy w' none := by
  have CF := Lib.hid (fun w => fix_any f0 v w)
  have hf := fx_valid f0
  generalize fx f0 = f at *
  have hp := enc_len_pos f v
  have h8 := enc_len f hv
  have CL := Lib.hid (fun w => Len_is hf hv w)
  have CP := Lib.hid (fun w => Put_is hf hv w)
  have HB := Lib.hid (enc_by (v := v) (valid_lt hf))
  obtain ⟨m, hm⟩ : ∃ m, m = (enc f v).length + n % (17 - (enc f v).length) := ⟨_, rfl⟩
  have hm16 : m ≤ 16 := by
    have := Nat.mod_lt n (show 0 < 17 - (enc f v).length by omega)
    omega
  have hmL : (enc f v).length ≤ m := by omega
  have CD := Lib.hid (fun w => Pad_ok f hv hf m hmL hm16 w)
  have hge : get (List.replicate (m - (enc f v).length) 32 ++ enc f v) = ⟨f, v, m, 0⟩ := by
    rw [get_pad hf hv (by omega)]
    congr 1
    omega
  have hbl : (List.replicate (m - (enc f v).length) 32 ++ enc f v).length = m := by simp; omega
  have hby : BY (List.replicate (m - (enc f v).length) 32 ++ enc f v) := by
    intro x hx
    rcases List.mem_append.1 hx with hx | hx
    · have := List.eq_of_mem_replicate hx; omega
    · exact HB.out x hx
  have hdr : (List.replicate (m - (enc f v).length) 32 ++ enc f v).drop (m - (enc f v).length) = enc f v := by
    rw [List.drop_append_of_le_length (by simp)]
    simp
  unfold Gives at CP CD
  rw [hbl] at CD
  generalize List.replicate (m - (enc f v).length) 32 ++ enc f v = bs1 at *
  have E : ((enc f v).length : Int) + (n : Int) % (17 - ((enc f v).length : Int)) = (m : Int) := by
    rw [show (17 - ((enc f v).length : Int)) = ((17 - (enc f v).length : Nat) : Int) by omega]
    omega
  generalize hz : enc f v = zs at *
  have CG := Lib.hid (fun (w1 : World) (A1 : Option Addr) (c1 : Nat) (R1 : RS w1 A1 c1 bs1) => Get_is (m := m) R1 hbl.symm hge)
  have HX := Lib.hid (And.intro hbl (And.intro hby hdr))
  generalize hL : zs.length = L at *
  have HL := Lib.hid hL
  have p1 : (1 : Int) ≤ (L : Int) := by omega
  have p0 : (0 : Int) < 17 - (L : Int) := by omega
  have p2 : (L : Int) ≤ 8 := by omega
  have p3 : (L : Int) ≤ (m : Int) := by omega
  have p4 : (m : Int) ≤ 16 := by omega
  have p5 : decide (m < L) = false := by simp; omega
  have p6 : (0 : Int) ≤ (m : Int) - (L : Int) := by omega
  have p7 : ((m : Int) - (L : Int)).toNat = m - L := by omega
  have hN : ∀ w : World, (binOp .eql 23 (.agg #[.int .u8 (f : Int), .int .i32 v]) (.agg #[.int .u8 (f : Int), .int .i32 v])).run Try.prog w = .ok (.bool true) w := fun w => by rw [eql_iv]; simp
  have hG : ∀ w : World, (eqGuard .eql 23 (.tmp 76) (.tmp 77) (.agg #[.int .u8 (f : Int), .int .i32 v]) (.agg #[.int .u8 (f : Int), .int .i32 v])).run Try.prog w = .ok () w := fun w => run_eqGuard_agg w .eql _ _ _ _ _ guard_iv
  clear hv hf hp h8 hm hm16 hmL hge hbl hby hdr hz hL
  go_enter Try.func8, Try.ntmps8
  go_wp2_with (first
    | (go_at_call 25; (with_reducible refine (CF.out _).mono ?_); rintro e w1 ⟨rfl, g1⟩; have G1 := Lib.hid (And.intro (box_put (a' := .int .u8 (f : Int)) (b' := .int .i32 v) g1) (((Box.new w _ _).kept0 g1).set (.int .u8 (f : Int)) (.int .i32 v))); obtain ⟨k0, k1, k2, k3⟩ := ((Box.new w _ _).kept0 g1).cells; clear g1)
    | (go_at_call 13; (with_reducible refine (CL.out _).mono ?_); rintro e w2 ⟨rfl, g2⟩; have G2 := Lib.hid (And.intro (g_trans G1.out.1 g2) (G1.out.2.kept0 g2)); clear g2 k0 k1 k2 k3; obtain ⟨k0, k1, k2, k3⟩ := G2.out.2.cells)
    | (go_at_call 15; (with_reducible refine (CD.out _).mono ?_); rintro e w3 ⟨A3, c3, rfl, o3, g3⟩; have G3 := Lib.hid (And.intro (And.intro (g_trans G2.out.1 g3) (G2.out.2.kept0 g3)) (OwnB.rs o3 HX.out.2.1).1); clear o3 g3 k0 k1 k2 k3; obtain ⟨k0, k1, k2, k3⟩ := G3.out.1.2.cells)
    | (go_at_call 11; (with_reducible refine (CP.out _).mono ?_); rintro e w4 ⟨A4, c4, rfl, o4, g4⟩; have G4 := Lib.hid (And.intro (And.intro (g_trans G3.out.1.1 g4) (G3.out.1.2.kept0 g4)) (And.intro (G3.out.2.kept0 g4) (OwnB.rs o4 HB.out).1)); clear o4 g4 k0 k1 k2 k3; obtain ⟨k0, k1, k2, k3⟩ := G4.out.1.2.cells)
    | (go_at_call 18; (with_reducible refine (CG.out _ _ _ G4.out.2.1).mono ?_); rintro e w5 ⟨rfl, g5⟩; have G5 := Lib.hid (And.intro (And.intro (g_trans G4.out.1.1 g5) (G4.out.1.2.kept0 g5)) (And.intro (G4.out.2.1.kept0 g5) (G4.out.2.2.kept0 g5))); clear g5 k0 k1 k2 k3))
  have K := Lib.hid (And.intro (G5.out.1.2.kept0 (World.grownBy_alloc w5 (.cells #[.int .u8 (f : Int), .int .i32 v] 23) none)) (And.intro (Box.new w5 (.int .u8 (f : Int)) (.int .i32 v)) (And.intro (G5.out.2.1.kept0 (World.grownBy_alloc w5 (.cells #[.int .u8 (f : Int), .int .i32 v] 23) none)) (G5.out.2.2.kept0 (World.grownBy_alloc w5 (.cells #[.int .u8 (f : Int), .int .i32 v] 23) none)))))
  have G6 := Lib.hid (g_trans G5.out.1.1 (World.grownBy_alloc w5 (.cells #[.int .u8 (f : Int), .int .i32 v] 23) none))
  have hc3 : (m : Int) ≤ (c3 : Int) := by have := K.out.2.2.1.le; have := HX.out.1; omega
  have hc4 : ¬ c3 = m - L := by omega
  generalize w5.alloc (.cells #[.int .u8 (f : Int), .int .i32 v] 23) = W at *
  generalize w5.heap.size = y at *
  have u1 : IntKind.i64.wrap ((m : Int) - (L : Int)) = (m : Int) - (L : Int) := by rw [IntKind.wrap_i64]; omega
  have u2 : (m : Int) - (L : Int) ≤ (m : Int) := by omega
  have u3 : (m : Int) - (L : Int) ≤ (c3 : Int) := by omega
  have S0 := Lib.hid (fun (w' : World) (g : W.grownBy w' none) => And.intro (str_any (K.out.2.2.2.kept0 g) L HL.out.symm) (by
    have := str_any ((K.out.2.2.1.kept0 g).drop (m - L)) (m - (m - L)) (by rw [List.length_drop, HX.out.1])
    rwa [HX.out.2.2] at this))
  obtain ⟨s1, s2⟩ := S0.out W (World.grownBy.refl _ _)
  obtain ⟨s3, s4⟩ := S0.out W.drew (g_drew (World.grownBy.refl _ _) 1)
  generalize str zs = z at *
  obtain ⟨k0, k1, _, _⟩ := K.out.1.cells
  obtain ⟨j0, j1, _, _⟩ := K.out.2.1.cells
  go_region_held3 (fun w' => (w'.cell? ⟨w.heap.size, 0, none⟩ = some (.int .u8 (f : Int)) ∧ w'.cell? ⟨w.heap.size, 1, none⟩ = some (.int .i32 v)) ∧ (w'.cell? ⟨y, 0, none⟩ = some (.int .u8 (f : Int)) ∧ w'.cell? ⟨y, 1, none⟩ = some (.int .i32 v)) ∧
      ((convert 24 9 (.slice A4 L c4)).run Try.prog w' = .ok (.string z) w' ∧ (convert 24 9 (.slice (Option.map (fun x => x.add (m - L)) A3) (m - (m - L)) (c3 - (m - L)))).run Try.prog w' = .ok (.string z) w'))
    (first | (exact ⟨⟨k0, k1⟩, ⟨j0, j1⟩, s1, s2⟩) | (exact ⟨⟨k0, k1⟩, ⟨j0, j1⟩, s3, s4⟩) | (exact ⟨⟨k6, k7⟩, ⟨j6, j7⟩, s5, s6⟩) | go_keep)
    (first | (go_at_call 17; (with_reducible refine (works_any _).mono ?_); rintro e w6 ⟨rfl, g6⟩; have G8 := g_trans (g_drew (World.grownBy.refl W none) 1) g6; obtain ⟨k6, k7, _, _⟩ := (K.out.1.kept0 G8).cells; obtain ⟨j6, j7, _, _⟩ := (K.out.2.1.kept0 G8).cells; obtain ⟨s5, s6⟩ := S0.out w6 G8; have G7 := Lib.hid (g_trans G6.out G8); clear g6 G8))
  all_goals go_wp2
  go_ret
  exact ⟨rfl, G7.out⟩
theorem walkCodePads (cs : List Value) (a1 : Int) (w : World) (w0 : IsI w cs) (w1 : (Lit.int .u8 a1).wf = true) : Calls Try.prog 8 #[.agg cs.toArray, .int .u8 a1] w fun e w' => e = .returned (.bool true) ∧ Below w.heap.size w w' := by
  obtain ⟨f, v, rfl, _, hv⟩ := w0
  have hb := byte_of_wf w1
  obtain ⟨n, rfl⟩ := Int.eq_ofNat_of_zero_le hb.1
  exact (pads_at f n hb.2 hv w).mono fun _ _ ⟨he, hg⟩ => ⟨he, g_below0 hg⟩
end Go.Proofs.Ytiblicpaeogihaa
