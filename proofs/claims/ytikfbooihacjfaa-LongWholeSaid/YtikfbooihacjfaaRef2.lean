/- The reference's unsigned sums and differences. -/
import Derived.Test.YtikfbooihacjfaaRefs
namespace Go.Proofs.Ytikfbooihacjfaa
open Go Go.RowKit

/-- The n lowest bits of m lie from the head of block g on, which is there. -/
def Row (w : World) (g n m : Nat) : Prop := g < w.heap.size ∧ BitsAt w g 0 n m
theorem Row.below {w w' : World} {g n m : Nat} (h : Row w g n m) (hb : Below w.heap.size w w') : Row w' g n m := ⟨Nat.lt_of_lt_of_le h.1 hb.size, h.2.below hb h.1⟩
theorem Own.toRow {w : World} {B n m g cap : Nat} (h : Own w B (.slice (some ⟨g, 0, none⟩) n cap) n m) : Row w g n m := ⟨h.lt.2, h.at_⟩
theorem Row.first {w : World} {g n : Nat} {c : Int} (h : Row w g n (U c)) (hn : 0 < n) : w.cell? ⟨g, 0, none⟩ = some (.int .i64 (cb c : Int)) := by
  have := h.2 0 hn
  rw [Nat.zero_add, cb_bt] at this
  exact this
theorem Row.place {w : World} {g n m k : Nat} (h : Row w g n m) (hk : k < n) : w.cell? ⟨g, k, none⟩ = some (.int .i64 (bt m k)) := by
  have := h.2 k hk
  rw [Nat.zero_add] at this
  exact this
theorem Row.trunc {w : World} {g n m : Nat} (h : Row w g n m) : Row w g n (m % 2 ^ n) := ⟨h.1, h.2.trunc⟩

theorem plus_row (gx gy cx cy0 n x y c : Nat) (hn : n ≤ 64) (hn0 : 0 < n) (hc : c ≤ 1) (w : World) (hx : Row w gx n x) (hy : Row w gy n y) :
    Calls Try.prog 44 #[.slice (some ⟨gx, 0, none⟩) n cx, .slice (some ⟨gy, 0, none⟩) n cy0, .int .i64 (c : Int)] w (MadeSum w n (x + y + c) (cy x y c n)) :=
  plus_any gx gy cx cy0 n x y c hn hn0 hc w hx.2 hy.2 hx.1 hy.1
theorem word_row (g c m : Nat) (w : World) (hr : Row w g 32 m) : Calls Try.prog 45 #[.slice (some ⟨g, 0, none⟩) 32 c] w fun e w' => e = .returned (.int .i32 (wd m)) ∧ w = w' := by
  have h := word_any g 0 c (m % 4294967296) (Nat.mod_lt _ (by decide)) w hr.trunc.2
  rw [wd_mod] at h
  exact h
set_option maxHeartbeats 1000000 in
theorem RSum_any (a b c : Int) (ha : isW a) (hb : isW b) (hc : isW c) (w : World) : Calls Try.prog 21 #[.int .i32 a, .int .i32 b, .int .i32 c] w fun e w' => e = .returned (.tuple #[.int .i32 (wd (U a + U b + cb c)), .int .i32 (((U a + U b + cb c) / 4294967296 : Nat) : Int)]) ∧ Below w.heap.size w w' := by
  have HA := Lib.hid (bits_any a ha)
  have HB := Lib.hid (bits_any b hb)
  have HC := Lib.hid (bits_any c hc)
  have hz := cb_le c
  have E := Lib.hid (cy_32 (U a) (U b) (cb c) (U_lt a) (U_lt b))
  obtain ⟨o0, o1⟩ := cy_bd (U a) (U b) (cb c) 32 hz
  go_enter Try.func21, Try.ntmps21
  go_wp2_with (first
    | (go_at_call 38; (with_reducible refine (HA.out _).mono ?_); rintro e w1 ⟨g1, k1, rfl, hown1, hb1⟩; have r1 := hown1.toRow; clear hown1)
    | (go_at_call 38; (with_reducible refine (HB.out _).mono ?_); rintro e w2 ⟨g2, k2, rfl, hown2, hb2⟩; have r2 := hown2.toRow; clear hown2)
    | (go_at_call 38; (with_reducible refine (HC.out _).mono ?_); rintro e w3 ⟨g3, k3, rfl, hown3, hb3⟩; have r3 := hown3.toRow; clear hown3; have hcell := r3.first (by omega))
    | (go_at_call 44; (with_reducible refine (plus_row _ _ _ _ _ _ _ _ (by omega) (by omega) hz _ ((r1.below hb2).below hb3) (r2.below hb3)).mono ?_); rintro e w4 ⟨g4, k4, rfl, hown4, hb4⟩; have r4 := hown4.toRow; clear hown4)
    | (go_at_call 45; (with_reducible refine (word_row _ _ _ _ r4).mono ?_); rintro e w' ⟨rfl, rfl⟩))
  go_ret2
  exact ⟨ret_ii rfl E.out, (((hb1.trans (hb2.mono hb1.size)).trans (hb3.mono (Nat.le_trans hb1.size hb2.size))).trans (hb4.mono (Nat.le_trans (Nat.le_trans hb1.size hb2.size) hb3.size)))⟩
theorem word_own {B g c m : Nat} {w : World} (h : Own w B (.slice (some ⟨g, 0, none⟩) 32 c) 32 m) : Calls Try.prog 45 #[.slice (some ⟨g, 0, none⟩) 32 c] w fun e w' => e = .returned (.int .i32 (wd m)) ∧ w = w' := word_row g c m w h.toRow
def borN (x y c : Nat) : Int := if (x : Int) - y - c < 0 then 1 else 0
set_option maxHeartbeats 2000000 in
theorem RDiff_any (a b c : Int) (ha : isW a) (hb : isW b) (hc : isW c) (w : World) : Calls Try.prog 23 #[.int .i32 a, .int .i32 b, .int .i32 c] w fun e w' => e = .returned (.tuple #[.int .i32 (wd (dfn (U a) (U b) (cb c))), .int .i32 (borN (U a) (U b) (cb c))]) ∧ Below w.heap.size w w' := by
  obtain ⟨i0, hi0, hz0, hz1, hz2⟩ := info_parts int_info
  have HA := Lib.hid (bits_any a ha)
  have HB := Lib.hid (bits_any b hb)
  have HC := Lib.hid (bits_any c hc)
  have hz := cb_le c
  have hx := U_lt a
  have hy := U_lt b
  have EO := Lib.hid (show cy (U b) (dfn (U a) (U b) (cb c)) (cb c) 32 = borN (U a) (U b) (cb c) from dif_out (U a) (U b) (cb c) hx hy hz)
  have ES := Lib.hid (fun k => dif_step (U a) (U b) (cb c) k hx hy hz)
  have hF : ∀ (g k3 : Nat) (w : World), Row w g 32 (U c) → w.cell? ⟨g, 0, none⟩ = some (.int .i64 (cb c : Int)) := fun g k3 w h => h.first (by omega)
  have HF := Lib.hid hF
  clear hF
  generalize U a = x at *
  generalize U b = y at *
  generalize cb c = z at *
  generalize dfn x y z = d at *
  have E0 := Lib.hid (cy_zero y d z)
  go_enter Try.func23, Try.ntmps23
  go_wp2_with (first
    | (go_at_call 38; (with_reducible refine (HA.out _).mono ?_); rintro e w1 ⟨g1, k1, rfl, hown1, hb1⟩; have r1 := hown1.toRow; clear hown1)
    | (go_at_call 38; (with_reducible refine (HB.out _).mono ?_); rintro e w2 ⟨g2, k2, rfl, hown2, hb2⟩; have r2 := hown2.toRow; clear hown2)
    | (go_at_call 38; (with_reducible refine (HC.out _).mono ?_); rintro e w3 ⟨g3, k3, rfl, hown3, hb3⟩; have r3 := hown3.toRow; clear hown3; have hcell := HF.out _ k3 _ r3))
  have hbw : Below w.heap.size w w3 := (hb1.trans (hb2.mono hb1.size)).trans (hb3.mono (Nat.le_trans hb1.size hb2.size))
  have rx := (r1.below hb2).below hb3
  have ry := r2.below hb3
  clear hcell r1 r2 r3 hb1 hb2 hb3
  obtain ⟨B, hB⟩ : ∃ B, B = w3.heap.size := ⟨_, rfl⟩
  have hB' : B ≤ w3.heap.size := Nat.le_of_eq hB
  have HB := Lib.hid hB
  obtain ⟨gx, hx⟩ := rx
  obtain ⟨gy, hy⟩ := ry
  rw [← hB] at gx gy
  have HX := Lib.hid hx
  have HY := Lib.hid hy
  clear hB hx hy
  go_loopw [10, 11, 12] (fun q v i wr => ∃ k : Nat, k ≤ 32 ∧ i = .int .i64 k ∧ q = .int .i64 (cy y d z k) ∧ Own wr B v k d ∧ Below B w3 wr) (fun _ _ i _ => 32 - (intOf i).toNat)
  case atStart => exact ⟨0, Nat.zero_le _, rfl, by rw [E0.out], World.ownsRow_nil _ _ _ _, Below.refl _ _⟩
  case round =>
    obtain ⟨k, hk, rfl, rfl, hown, hbel⟩ := hrel
    obtain ⟨p0, p1⟩ := cy_bd y d z k hz
    obtain ⟨n0, n1⟩ := cy_bd y d z (k + 1) hz
    by_cases hlt : (k : Int) < 32
    · have e1 := HX.out.below hbel gx k (by omega)
      have e2 := HY.out.below hbel gy k (by omega)
      rw [Nat.zero_add] at e1 e2
      obtain ⟨x0, x1⟩ := bt_bd x k
      obtain ⟨y0, y1⟩ := bt_bd y k
      obtain ⟨d0, d1⟩ := bt_bd d k
      have st := ES.out k (by omega)
      have hk0 : (0 : Int) ≤ (k : Int) := by omega
      by_cases hneg : bt x k - bt y k - cy y d z k < 0
      · have S1 := Lib.hid (show bt x k - bt y k - cy y d z k + 2 = bt d k by omega)
        have S2 := Lib.hid (show 1 = cy y d z (k + 1) by omega)
        clear st
        go_wp2
        go_quiet (fail)
        have hown' : Own (wr.drewN nq) B _ k d := hown
        have hbel' := below_drewN hbel nq
        clear hown hbel e1 e2
        generalize wr.drewN nq = W at *
        go_wp2_with (at_builtin; refine wpList_append_own _ rfl _ _ 42 rfl B 3 i0 (.int .i64 0) 1 8 Try.underlying42 hi0 hz0 hz1 hz2 rfl (by decide) _ _ _ rfl (hown'.alloc _) ⟨W.heap.size, 0, none⟩ 1 1 [.int .i64 (bt x k - bt y k - cy y d z k + 2)] rfl rfl ?c1 ?c2 ?c3 ?c4 ?c5 ?_)
        case c1 =>
          intro j u hj
          match j, hj with
          | 0, hj => simp at hj; subst hj; simp [Addr.add]
        case c2 => intro u hu; simp at hu; subst hu; rfl
        case c3 => unfold maxLen; omega
        case c4 => omega
        case c5 => have := hbel'.size; simp; omega
        intro v' w1 hown2 hgrow _
        have R := own_step hB' hown' hbel' hown2 S1.out hgrow
        clear hown' hgrow hown2 hbel'
        go_wp2
        go_roundw
        case rel => exact ⟨k + 1, by omega, by go_num, by rw [← S2.out], R.1, R.2⟩
        case measure => simp [intOf]; omega
      · have S1 := Lib.hid (show bt x k - bt y k - cy y d z k = bt d k by omega)
        have S2 := Lib.hid (show 0 = cy y d z (k + 1) by omega)
        clear st
        go_wp2
        go_quiet (fail)
        have hown' : Own (wr.drewN nq) B _ k d := hown
        have hbel' := below_drewN hbel nq
        clear hown hbel e1 e2
        generalize wr.drewN nq = W at *
        go_wp2_with (at_builtin; refine wpList_append_own _ rfl _ _ 42 rfl B 3 i0 (.int .i64 0) 1 8 Try.underlying42 hi0 hz0 hz1 hz2 rfl (by decide) _ _ _ rfl (hown'.alloc _) ⟨W.heap.size, 0, none⟩ 1 1 [.int .i64 (bt x k - bt y k - cy y d z k)] rfl rfl ?d1 ?d2 ?d3 ?d4 ?d5 ?_)
        case d1 =>
          intro j u hj
          match j, hj with
          | 0, hj => simp at hj; subst hj; simp [Addr.add]
        case d2 => intro u hu; simp at hu; subst hu; rfl
        case d3 => unfold maxLen; omega
        case d4 => omega
        case d5 => have := hbel'.size; simp; omega
        intro v' w1 hown2 hgrow _
        have R := own_step hB' hown' hbel' hown2 S1.out hgrow
        clear hown' hgrow hown2 hbel'
        go_wp2
        go_roundw
        case rel => exact ⟨k + 1, by omega, by go_num, by rw [← S2.out], R.1, R.2⟩
        case measure => simp [intOf]; omega
    · have hk' : k = 32 := by omega
      subst hk'
      obtain ⟨g, cap, rfl, hg1, hg2⟩ := World.ownsRow.form hown (by omega)
      go_wp2_with (go_at_call 45; (with_reducible refine (word_own hown).mono ?_); rintro e w' ⟨rfl, rfl⟩)
      go_ret2
      exact ⟨ret_ii rfl EO.out, hbw.trans ((show Below w3.heap.size w3 _ by rw [← HB.out]; exact hbel).mono hbw.size)⟩
end Go.Proofs.Ytikfbooihacjfaa
