/- The law on shortest encodings returns true for every slice of bytes. -/
import Derived.Test.YtiblicpaeogihaaWorks
import Derived.Test.YtiblicpaeogihaaRpad
namespace Go.Proofs.Ytiblicpaeogihaa
open Go Go.RowKit

theorem BY.take {xs : List Nat} (h : BY xs) (m : Nat) : BY (xs.take m) := fun x hx => h x (List.mem_of_mem_take hx)
theorem RS.take {w : World} {A : Option Addr} {c : Nat} {xs : List Nat} (h : RS w A c xs) (m : Nat) : RS w A c (xs.take m) :=
  ⟨by have := h.le; simp; omega, h.mx, h.by_.take m, fun j hj => by
    simp only [List.length_take] at hj
    obtain ⟨ad, e, hc⟩ := h.rd j (by omega)
    refine ⟨ad, e, ?_⟩
    rw [hc]
    unfold bc
    simp only [List.getD_eq_getElem?_getD]
    rw [List.getElem?_take, if_pos (by omega)]⟩
theorem Get_is {A : Option Addr} {c f n m : Nat} {v e' : Int} {xs : List Nat} {w : World} (R : RS w A c xs) (hm : m = xs.length) (h : get xs = ⟨f, v, n, e'⟩) : Calls Try.prog 18 #[.slice A m c] w fun e w' =>
    e = .returned (.tuple #[.agg #[.int .u8 (f : Int), .int .i32 v], .int .i64 (n : Int), .int .i64 e']) ∧ w.grownBy w' none := by
  subst hm
  have := Get_any R
  rw [h] at this
  exact this
theorem Put_is {f : Nat} {v : Int} (hf : valid f = true) (hv : isW v) (w : World) : Calls Try.prog 11 #[.agg #[.int .u8 (f : Int), .int .i32 v]] w (Gives w 0 (enc f v)) := by
  have C := Put_any f hv w
  rwa [show pe f = 0 from if_pos hf, show pt f v = enc f v from if_pos hf] at C
theorem Len_is {f : Nat} {v : Int} (hf : valid f = true) (hv : isW v) (w : World) : Calls Try.prog 13 #[.agg #[.int .u8 (f : Int), .int .i32 v]] w fun e w' => e = .returned (.int .i64 ((enc f v).length : Nat)) ∧ w.grownBy w' none := by
  have C := Len_any f hv w
  rwa [show ln f v = (enc f v).length from if_pos hf] at C
theorem get_no {ys : List Nat} (h : (get ys).e ≠ 0) : get ys = ⟨0, 0, 0, (get ys).e⟩ := by
  obtain ⟨h1, h2, h3⟩ := gt_fails (m := 16) (o := 0) (k := 0) (xs := ys) h
  unfold get
  generalize gt 16 0 0 ys = g at *
  cases g
  simp only at h1 h2 h3
  subst h1 h2 h3
  rfl
theorem get_ok {ys : List Nat} (h : (get ys).e = 0) : get ys = ⟨(get ys).fn, (get ys).arg, (get ys).n, 0⟩ := by
  generalize get ys = g at *
  cases g
  simp only at h
  subst h
  rfl
/-- A slice that is cut to m elements. -/
def Cut (L m k : Nat) : Prop := ((L : Int) ≤ (k : Int) ∧ m = L) ∨ ((k : Int) < (L : Int) ∧ m = k)
theorem cut_of (L k : Nat) : Cut L (min L k) k := by unfold Cut; omega
set_option maxRecDepth 100000 in
set_option maxHeartbeats 1000000 in
theorem short_no {A : Option Addr} {L m c : Nat} {ys : List Nat} {w : World} (R : RS w A c ys) (hm : m = ys.length) (hL : Cut L m 20) (hc : L ≤ c) (h : (get ys).e ≠ 0) : Calls Try.prog 7 #[.slice A L c] w fun e w' => e = .returned (.bool true) ∧ w.grownBy w' none := by
  have hG := get_no h
  have C : Calls Try.prog 18 #[.slice A m c] w fun e w' => e = .returned (.tuple #[.agg #[.int .u8 0, .int .i32 0], .int .i64 0, .int .i64 (get ys).e]) ∧ w.grownBy w' none := Get_is R hm hG
  have hmx := R.mx
  unfold maxLen at hmx
  generalize (get ys).e = E at *
  have C1 := Lib.hid C
  have q1 : (L : Int) ≤ (c : Int) := by omega
  have q2 : (E == 0) = false := by simpa using h
  have q3 : (E != 0) = true := by simpa using h
  have hN : ∀ w : World, (binOp .eql 23 (.agg #[.int .u8 0, .int .i32 0]) (.agg #[.int .u8 0, .int .i32 0])).run Try.prog w = .ok (.bool true) w := eql_iv 0 0 0 0
  have hG : ∀ w : World, (eqGuard .eql 23 (.tmp 27) (.tmp 28) (.agg #[.int .u8 0, .int .i32 0]) (.agg #[.int .u8 0, .int .i32 0])).run Try.prog w = .ok () w := fun w => run_eqGuard_agg w .eql _ _ _ _ _ guard_iv
  have e20 : max (20 : Int) 0 = 20 := by decide
  clear h C R hm
  unfold Cut at hL
  obtain ⟨h20, rfl⟩ | ⟨h20, rfl⟩ := hL
  all_goals
    go_enter Try.func7, Try.ntmps7
    go_wp2_with (first
      | (go_at_call 18; (with_reducible refine C1.out.mono ?_); rintro e w1 ⟨rfl, g1⟩; have G1 := Lib.hid g1; clear g1)
      | (go_at_call 17; (with_reducible refine (works_any _).mono ?_); rintro e w2 ⟨rfl, g2⟩; have G2 := Lib.hid (g_trans (g_trans G1.out (World.grownBy_alloc _ _ none)) g2); clear g2))
    go_ret
    exact ⟨rfl, G2.out⟩
theorem get_word {ys : List Nat} (h : (get ys).e = 0) (hb : BY ys) : valid (get ys).fn = true ∧ isW (get ys).arg ∧ 0 < (get ys).n ∧ (get ys).n ≤ ys.length ∧ (get ys).n ≤ 16 := by
  have h1 := gt_word (m := 16) (k := 0) reg_zero hb
  have h2 := gt_n (m := 16) (o := 0) (k := 0) (xs := ys) h
  refine ⟨h1.2.2.2.2.2.2 h, ⟨h1.2.1, h1.2.2.1⟩, h2.1, ?_, ?_⟩
  · have := h2.2.2; show (gt 16 0 0 ys).n ≤ _; omega
  · have := h2.2.1; show (gt 16 0 0 ys).n ≤ _; omega
set_option maxRecDepth 100000 in
set_option maxHeartbeats 2000000 in
theorem short_yes {A : Option Addr} {L m c : Nat} {ys : List Nat} {w : World} (R : RS w A c ys) (hm : m = ys.length) (hL : Cut L m 20) (hc : L ≤ c) (h : (get ys).e = 0) : Calls Try.prog 7 #[.slice A L c] w fun e w' => e = .returned (.bool true) ∧ w.grownBy w' none := by
  obtain ⟨k1, k2, k3, k4, k5⟩ := get_word h R.by_
  have hs := get_short h R.by_
  have hp := enc_len_pos (get ys).fn (get ys).arg
  have h8 := enc_len (get ys).fn k2
  have C1 := Lib.hid (Get_is R hm (get_ok h))
  have CP := Lib.hid (fun w => Put_is k1 k2 w)
  have CL := Lib.hid (fun w => Len_is k1 k2 w)
  have hge : get (enc (get ys).fn (get ys).arg) = ⟨(get ys).fn, (get ys).arg, (enc (get ys).fn (get ys).arg).length, 0⟩ := by have := get_enc k1 k2 []; rwa [List.append_nil] at this
  have CG := Lib.hid (fun (w1 : World) (A1 : Option Addr) (c1 : Nat) (R1 : RS w1 A1 c1 (enc (get ys).fn (get ys).arg)) => Get_is R1 rfl hge)
  have HB := Lib.hid (enc_by (v := (get ys).arg) (valid_lt k1))
  unfold Gives at CP
  have hmx := R.mx
  unfold maxLen at hmx
  generalize hz : enc (get ys).fn (get ys).arg = zs at *
  generalize (get ys).fn = f at *
  generalize (get ys).arg = v at *
  generalize (get ys).n = n at *
  have q1 : (L : Int) ≤ (c : Int) := by omega
  have hN : ∀ w : World, (binOp .eql 23 (.agg #[.int .u8 (f : Int), .int .i32 v]) (.agg #[.int .u8 (f : Int), .int .i32 v])).run Try.prog w = .ok (.bool true) w := fun w => by rw [eql_iv]; simp
  have hG : ∀ w : World, (eqGuard .eql 23 (.tmp 75) (.tmp 76) (.agg #[.int .u8 (f : Int), .int .i32 v]) (.agg #[.int .u8 (f : Int), .int .i32 v])).run Try.prog w = .ok () w := fun w => run_eqGuard_agg w .eql _ _ _ _ _ guard_iv
  have e20 : max (20 : Int) 0 = 20 := by decide
  have p1 : (1 : Int) ≤ (zs.length : Int) := by omega
  have p2 : (zs.length : Int) ≤ 8 := by omega
  have p3 : (zs.length : Int) ≤ (n : Int) := by omega
  clear k1 k2 k3 k4 k5 h hs hp h8 R hm hz hge
  unfold Cut at hL
  generalize hz : zs.length = Z at *
  have HZ := Lib.hid hz
  clear hz
  obtain ⟨h20, rfl⟩ | ⟨h20, rfl⟩ := hL
  all_goals
    go_enter Try.func7, Try.ntmps7
    go_wp2_with (first
      | (go_at_call 18; (with_reducible refine C1.out.mono ?_); rintro e w1 ⟨rfl, g1⟩; have G1 := Lib.hid g1; clear g1)
      | (go_at_call 11; (with_reducible refine (CP.out _).mono ?_); rintro e w2 ⟨A2, c2, rfl, o2, g2⟩; have G2 := Lib.hid (And.intro (g_trans (g_trans G1.out (World.grownBy_alloc _ _ none)) g2) (OwnB.rs o2 HB.out).1); obtain ⟨k0, k1⟩ := box_cells g2; clear o2 g2)
      | (go_at_call 18; (with_reducible refine (CG.out _ _ _ G2.out.2).mono ?_); rintro e w3 ⟨rfl, g3⟩; have G3 := Lib.hid (g_trans G2.out.1 g3); have k2 := g3.cell k0 (by simp); have k3 := g3.cell k1 (by simp); have z3 : w1.heap.size < w3.heap.size := lt_of_cell k2; clear g3 k0 k1)
      | (go_at_call 13; (with_reducible refine (CL.out _).mono ?_); rintro e w4 ⟨rfl, g4⟩; obtain ⟨k6, k7⟩ := box_cells g4; have k4 := g4.cell (World.grownBy_alloc _ _ none |>.cell k2 (by simp)) (by simp); have k5 := g4.cell (World.grownBy_alloc _ _ none |>.cell k3 (by simp)) (by simp); have G4 := Lib.hid (g_trans (g_trans G3.out (World.grownBy_alloc _ _ none)) g4); clear g4 k2 k3)
      | (go_at_call 17; (with_reducible refine (works_any _).mono ?_); rintro e w5 ⟨rfl, g5⟩; have G5 := Lib.hid (g_trans G4.out g5); clear g5))
    go_ret
    exact ⟨rfl, G5.out⟩
theorem cut_ys {xs : List Nat} (k : Nat) : min xs.length k = (xs.take k).length := by simp; omega
theorem walkCodeShortest (a0 : Option Addr) (len0 cap0 : Nat) (z0 : List Int) (w : World) (w0 : Came w a0 len0 cap0 z0) : Calls Try.prog 7 #[.slice a0 len0 cap0] w fun e w' => e = .returned (.bool true) ∧ Below w.heap.size w w' := by
  obtain ⟨xs, rfl, R, _⟩ := w0.rs
  by_cases h : (get (xs.take 20)).e = 0
  · exact (short_yes (R.take 20) (cut_ys 20) (cut_of _ _) R.le h).mono fun _ _ ⟨he, hg⟩ => ⟨he, g_below0 hg⟩
  · exact (short_no (R.take 20) (cut_ys 20) (cut_of _ _) R.le h).mono fun _ _ ⟨he, hg⟩ => ⟨he, g_below0 hg⟩
end Go.Proofs.Ytiblicpaeogihaa
