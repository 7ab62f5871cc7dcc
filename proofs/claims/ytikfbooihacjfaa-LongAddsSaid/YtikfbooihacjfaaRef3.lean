/- The reference's products and quotients. -/
import Derived.Test.YtikfbooihacjfaaRef2
namespace Go.Proofs.Ytikfbooihacjfaa
open Go Go.RowKit

/-- The slice value of 64 bits of m. -/
def Sl64 (w : World) (v : Value) (m : Nat) : Prop := ∃ g cap, v = .slice (some ⟨g, 0, none⟩) 64 cap ∧ Row w g 64 m ∧ 64 ≤ cap ∧ cap ≤ maxLen
theorem Own.sl {w : World} {B m g cap : Nat} (h : Own w B (.slice (some ⟨g, 0, none⟩) 64 cap) 64 m) : Sl64 w (.slice (some ⟨g, 0, none⟩) 64 cap) m := ⟨g, cap, rfl, h.toRow, h.capd.1, h.capd.2⟩
theorem Row.high {w : World} {g m : Nat} (h : Row w g 64 m) (hm : m < 18446744073709551616) : BitsAt w g 32 32 (m / 4294967296) ∧ m / 4294967296 < 4294967296 := by
  have := h.2.high (k := 32)
  rw [show (2 : Nat) ^ 32 = 4294967296 by decide] at this
  exact ⟨this, by omega⟩
theorem word_lo (g c m : Nat) (w : World) (n : Nat) (hr : Row w g 64 m) : Calls Try.prog 45 #[.slice (some ⟨g, 0, none⟩) 32 c] (w.drewN n) fun e w' => e = .returned (.int .i32 (wd m)) ∧ ∃ k, w' = w.drewN k :=
  (word_row g c m (w.drewN n) (show Row w g 32 m from ⟨hr.1, hr.2.low (by omega)⟩)).mono fun _ _ h => ⟨h.1, n, h.2.symm⟩
theorem word_hi (g c m : Nat) (w : World) (n : Nat) (hr : Row w g 64 m) (hm : m < 18446744073709551616) : Calls Try.prog 45 #[.slice (some ⟨g, 32, none⟩) 32 c] (w.drewN n) fun e w' => e = .returned (.int .i32 (hiW m)) ∧ ∃ k, w' = w.drewN k :=
  (word_any g 32 c (m / 4294967296) (hr.high hm).2 (w.drewN n) (hr.high hm).1).mono fun _ _ h => ⟨h.1, n, h.2.symm⟩
theorem DW_zero (b : Int) : DW 0 b = U b := by unfold DW; rw [show U 0 = 0 by decide]; omega
theorem isW_zero : isW 0 := by unfold isW; omega
theorem dbl_zero (b : Int) (hb : isW b) (w : World) : Calls Try.prog 46 #[.int .i32 0, .int .i32 b] w (MadeBits w 64 (U b)) := by
  have := double_any 0 b isW_zero hb w
  rw [DW_zero] at this
  exact this
theorem plus_zero (gx gy cx cy0 x y : Nat) (w : World) (hx : Row w gx 64 x) (hy : Row w gy 64 y) :
    Calls Try.prog 44 #[.slice (some ⟨gx, 0, none⟩) 64 cx, .slice (some ⟨gy, 0, none⟩) 64 cy0, .int .i64 0] w (MadeSum w 64 (x + y + 0) (cy x y 0 64)) :=
  plus_row gx gy cx cy0 64 x y 0 (by omega) (by omega) (by omega) w hx hy
theorem left_row (g cx x k : Nat) (hk : k < 64) (w : World) (hx : Row w g 64 x) :
    Calls Try.prog 47 #[.slice (some ⟨g, 0, none⟩) 64 cx, .int .i64 (k : Int)] w (MadeBits w 64 (x * 2 ^ k)) := lleft_any g cx x k hk w hx.2 hx.1
set_option maxHeartbeats 2000000 in
theorem RMul_any (a b c : Int) (ha : isW a) (hb : isW b) (hc : isW c) (w : World) (hs : U a * U b + U c < 18446744073709551616) : Calls Try.prog 25 #[.int .i32 a, .int .i32 b, .int .i32 c] w fun e w' => e = .returned (.tuple #[.int .i32 (wd (U a * U b + U c)), .int .i32 (hiW (U a * U b + U c))]) ∧ Below w.heap.size w w' := by
  have HA := Lib.hid (bits_any a ha)
  have HB := Lib.hid (dbl_zero b hb)
  have HC := Lib.hid (dbl_zero c hc)
  have EE := Lib.hid (mul_end (U a) (U b) (U c) (U_lt a))
  generalize U a = x at *
  generalize U b = y at *
  generalize U c = z at *
  have E0 := Lib.hid (mul_zero_ x y z)
  go_enter Try.func25, Try.ntmps25
  go_wp2_with (first
    | (go_at_call 38; (with_reducible refine (HA.out _).mono ?_); rintro e w1 ⟨g1, k1, rfl, hown1, hb1⟩; have r1 := hown1.toRow; clear hown1)
    | (go_at_call 46; (with_reducible refine (HC.out _).mono ?_); rintro e w2 ⟨g2, k2, rfl, hown2, hb2⟩; have s2 := hown2.sl; clear hown2))
  have hbw : Below w.heap.size w w2 := hb1.trans (hb2.mono hb1.size)
  have rx := r1.below hb2
  clear r1 hb1 hb2
  go_loopw [9, 10] (fun v i wr => ∃ k : Nat, k ≤ 32 ∧ i = .int .i64 k ∧ Sl64 wr v (z + x % 2 ^ k * y) ∧ Row wr g1 32 x ∧ Below w.heap.size w wr) (fun _ i _ => 32 - (intOf i).toNat)
  case atStart => exact ⟨0, Nat.zero_le _, rfl, by rw [E0.out]; exact s2, rx, hbw⟩
  case round =>
    obtain ⟨k, hk, rfl, ⟨g, cap, rfl, hrow, hcap, hcap'⟩, hx, hbel⟩ := hrel
    clear s2 rx hbw
    by_cases hlt : (k : Int) < 32
    · have e1 := hx.place (k := k) (by omega)
      have hk0 : (0 : Int) ≤ (k : Int) := by omega
      obtain ⟨q0, q1⟩ := bt_bd x k
      by_cases hbit : bt x k = 1
      · have E := Lib.hid (mul_step_one x y z k hbit)
        rw [hbit] at e1
        clear hbit q0 q1
        go_wp2_with (first
          | (go_at_call 46; (with_reducible refine (HB.out _).mono ?_); rintro e w3 ⟨g3, k3, rfl, hown3, hb3⟩; have r3 := hown3.toRow; clear hown3)
          | (go_at_call 47; (with_reducible refine (left_row _ _ _ _ (by omega) _ r3).mono ?_); rintro e w4 ⟨g4, k4, rfl, hown4, hb4⟩; have r4 := hown4.toRow; clear hown4)
          | (go_at_call 44; (with_reducible refine (plus_zero _ _ _ _ _ _ _ ((hrow.below hb3).below hb4) r4).mono ?_); rintro e w5 ⟨g5, k5, rfl, hown5, hb5⟩; have s5 := hown5.sl; clear hown5))
        have hx5 := ((hx.below hb3).below hb4).below hb5
        have hb6 : Below w.heap.size w w5 := ((hbel.trans (hb3.mono hbel.size)).trans (hb4.mono (Nat.le_trans hbel.size hb3.size))).trans (hb5.mono (Nat.le_trans (Nat.le_trans hbel.size hb3.size) hb4.size))
        clear hx hbel hrow hb3 hb4 hb5 e1 r3 r4
        go_roundw
        case rel => exact ⟨k + 1, by omega, by go_num, by rw [← E.out]; exact s5, hx5, hb6⟩
        case measure => simp [intOf]; omega
      · have hbit0 : bt x k = 0 := by omega
        have E := Lib.hid (mul_step_zero x y z k hbit0)
        rw [hbit0] at e1
        clear hbit0 hbit q0 q1
        go_wp2
        go_roundw
        case rel => exact ⟨k + 1, by omega, by go_num, by rw [← E.out]; exact ⟨g, cap, rfl, hrow, hcap, hcap'⟩, hx, hbel⟩
        case measure => simp [intOf]; omega
    · have hk' : k = 32 := by omega
      subst hk'
      rw [EE.out] at hrow
      have c1 : (64 : Int) ≤ (cap : Int) := by omega
      have c2 : ¬ cap = 32 := by omega
      unfold maxLen at hcap'
      go_wp2
      go_quiet ((go_at_call 45; first | (with_reducible exact word_lo g _ _ _ _ hrow) | (with_reducible exact word_hi g _ _ _ _ hrow hs)))
      go_wp2
      go_ret2
      exact ⟨rfl, below_drewN hbel _⟩
theorem RDiv_over (hi lo d : Int) (hh : isW hi) (hd : isW d) (h : U d ≤ U hi) (w : World) : Calls Try.prog 27 #[.int .i32 hi, .int .i32 lo, .int .i32 d] w fun e w' => e = .returned (.tuple #[.int .i32 0, .int .i32 0, .bool true]) ∧ Below w.heap.size w w' := by
  have HA := Lib.hid (Value_any hi hh)
  have HB := Lib.hid (Value_any d hd)
  generalize U hi = x at *
  generalize U d = y at *
  have h' : (y : Int) ≤ (x : Int) := by omega
  go_enter Try.func27, Try.ntmps27
  go_wp2_with (first
    | (go_at_call 49; (with_reducible refine (HA.out _).mono ?_); rintro e w' ⟨rfl, rfl⟩)
    | (go_at_call 49; (with_reducible refine (HB.out _).mono ?_); rintro e w' ⟨rfl, rfl⟩))
  go_ret3
  exact ⟨rfl, Below.refl _ _⟩
theorem Row.low {w : World} {g m : Nat} (h : Row w g 64 m) : Row w g 32 m := ⟨h.1, h.2.low (by omega)⟩
set_option maxRecDepth 100000 in
set_option maxHeartbeats 4000000 in
theorem RDiv_fits (hi lo d : Int) (hh : isW hi) (hl : isW lo) (hd : isW d) (h : U hi < U d) (w : World) : Calls Try.prog 27 #[.int .i32 hi, .int .i32 lo, .int .i32 d] w fun e w' =>
    e = .returned (.tuple #[.int .i32 (wd (DW hi lo / U d)), .int .i32 (wd (DW hi lo % U d)), .bool false]) ∧ Below w.heap.size w w' := by
  obtain ⟨i0, hi0, hz0, hz1, hz2⟩ := info_parts int_info
  have HA := Lib.hid (Value_any hi hh)
  have HB := Lib.hid (Value_any d hd)
  have HD := Lib.hid (double_any hi lo hh hl)
  have hDl := DW_lt hi lo
  have hdl := U_lt d
  generalize DW hi lo = D at *
  generalize U hi = x at *
  generalize U d = y at *
  have hy : 0 < y := by omega
  have h' : ¬ (y : Int) ≤ (x : Int) := by omega
  have Q0 := Lib.hid (dq_64 D y hDl)
  have R0 := Lib.hid (dr_64 D y hDl)
  have ST := Lib.hid (fun k => div_step D y k hy)
  have RL := Lib.hid (fun k => dr_lt D y k hy)
  have QE := Lib.hid (show dq D y 0 * 2 ^ 0 = D / y by unfold dq; rw [Nat.pow_zero, Nat.mul_one, Nat.div_one])
  have W9 := Lib.hid (Word_any (dr D y 0) (by have := dr_lt D y 0 hy; omega))
  have E9 := Lib.hid (show dr D y 0 = D % y by unfold dr; rw [Nat.pow_zero, Nat.div_one])
  clear hDl
  go_enter Try.func27, Try.ntmps27
  go_wp2_with (first
    | (go_at_call 49; (with_reducible refine (HA.out _).mono ?_); rintro e w' ⟨rfl, rfl⟩)
    | (go_at_call 49; (with_reducible refine (HB.out _).mono ?_); rintro e w' ⟨rfl, rfl⟩)
    | (go_at_call 46; (with_reducible refine (HD.out _).mono ?_); rintro e w1 ⟨g1, k1, rfl, hown1, hb1⟩; have r1 := hown1.toRow; clear hown1)
    | (at_make; refine wpList_make_full _ rfl _ _ 42 rfl w1.heap.size 3 i0 (.int .i64 0) 1 Try.underlying42 hi0 hz0 hz1 .i64 .i64 _ _ 64 rfl rfl (by omega) (by omega) (by rw [hz2]; omega) (by unfold maxLen; omega) (Nat.le_refl _) ?_; intro w0 hown0 hgrow0))
  have hown1 : Own w0 w1.heap.size (.slice (some ⟨w1.heap.size, 0, none⟩) 64 64) 64 0 := by unfold Own; rw [← made_zeros]; exact hown0
  have hbel1 : Below w1.heap.size w1 w0 := (Below.refl _ _).grown hgrow0 (Nat.le_refl _) (by simp)
  clear hown0 hgrow0
  obtain ⟨g1l, hX⟩ := r1
  have HX := Lib.hid hX
  clear hX
  go_loopw [11, 12] (fun v i wr => ∃ k : Nat, k ≤ 64 ∧ i = .int .i64 ((k : Int) - 1) ∧ v = .int .i64 (dr D y k : Int) ∧ Own wr w1.heap.size (.slice (some ⟨w1.heap.size, 0, none⟩) 64 64) 64 (dq D y k * 2 ^ k) ∧ Below w1.heap.size w1 wr) (fun _ i _ => (intOf i + 1).toNat)
  case atStart => exact ⟨64, by omega, by simp, by rw [R0.out]; rfl, by rw [Q0.out]; exact hown1, hbel1⟩
  case round =>
    obtain ⟨k, hk, rfl, rfl, hown, hbel⟩ := hrel
    clear hown1 hbel1
    rcases k with _ | j
    · have hneg : ¬ (0 : Int) ≤ ((0 : Nat) : Int) - 1 := by omega
      rw [QE.out] at hown
      have hq := hown.toRow.low
      go_wp2_with (first
        | (go_at_call 45; (with_reducible refine (word_row _ _ _ _ hq).mono ?_); rintro e w' ⟨rfl, rfl⟩)
        | (go_at_call 50; (with_reducible refine (W9.out _).mono ?_); rintro e w' ⟨rfl, rfl⟩))
      go_ret3
      exact ⟨ret_iib rfl (congrArg wd E9.out) rfl, hb1.trans (hbel.mono hb1.size)⟩
    · have hcell := HX.out.below hbel g1l j (by omega)
      rw [Nat.zero_add] at hcell
      have e2 := World.ownsRow.cellAt hown j (by omega)
      rw [bl_at _ _ _ (by omega)] at e2
      have e3 := World.ownsRow.frozenAt hown j
      have hr := RL.out (j + 1)
      obtain ⟨p2, p3⟩ := bt_bd D j
      obtain ⟨st1, st2⟩ := ST.out j
      rw [show (((j + 1 : Nat) : Int) - 1) = (j : Int) by omega]
      have hj : j < 64 := by omega
      have r0 : 0 ≤ (dr D y (j + 1) : Int) := by omega
      have r1 : (dr D y (j + 1) : Int) < 4294967296 := by omega
      by_cases hge : (y : Int) ≤ 2 * (dr D y (j + 1) : Int) + bt D j
      · obtain ⟨s1, s2⟩ := st1 hge
        have S1 := Lib.hid s1
        have S2 := Lib.hid (show (bl 64 (dq D y (j + 1) * 2 ^ (j + 1))).set j (.int .i64 1) = bl 64 (dq D y j * 2 ^ j) by rw [s2]; exact bl_quo 64 _ j hj)
        have hS := Lib.hid (World.ownsRow.stored hown j (.int .i64 1))
        clear s1 s2 st1 st2
        go_wp2_with (go_at_call 49; (with_reducible refine (HB.out _).mono ?_); rintro e w' ⟨rfl, rfl⟩)
        go_roundw
        case rel => exact ⟨j, by omega, rfl, by rw [S1.out], by unfold Own; rw [← S2.out]; exact hS.out.1, hbel.setCell (Nat.le_refl _) _⟩
        case measure => simp [intOf]
      · obtain ⟨s1, s2⟩ := st2 (by omega)
        have S1 := Lib.hid s1
        have S2 := Lib.hid (show dq D y (j + 1) * 2 ^ (j + 1) = dq D y j * 2 ^ j by rw [s2]; exact dq_even _ j)
        clear s1 s2 st1 st2 e2 e3
        have hHo := Lib.hid hown
        have hlt2 : 2 * (dr D y (j + 1) : Int) + bt D j < (y : Int) := by omega
        clear hown hr hge
        generalize (dr D y (j + 1) : Int) = R at *
        generalize bt D j = bb at *
        go_wp2_with (go_at_call 49; (with_reducible refine (HB.out _).mono ?_); rintro e w' ⟨rfl, rfl⟩)
        go_roundw
        case rel => exact ⟨j, by omega, rfl, by rw [S1.out], by rw [← S2.out]; exact hHo.out, hbel⟩
        case measure => simp [intOf]
end Go.Proofs.Ytikfbooihacjfaa
