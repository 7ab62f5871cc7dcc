/- The reference's lists of bits: plus, left and right. -/
import Derived.Test.YtikfbooihacjfaaBits
namespace Go.Proofs.Ytikfbooihacjfaa
open Go Go.RowKit

/-- The sum of two lists of bits was made. -/
def MadeSum (w : World) (n m : Nat) (c : Int) (e : Ending) (w' : World) : Prop :=
  ∃ g cap, e = .returned (.tuple #[.slice (some ⟨g, 0, none⟩) n cap, .int .i64 c]) ∧ Own w' w.heap.size (.slice (some ⟨g, 0, none⟩) n cap) n m ∧ Below w.heap.size w w'
set_option maxHeartbeats 2000000 in
theorem plus_any (gx gy cx cy0 n x y c : Nat) (hn : n ≤ 64) (hn0 : 0 < n) (hc : c ≤ 1) (w : World) (hx : BitsAt w gx 0 n x) (hy : BitsAt w gy 0 n y) (hgx : gx < w.heap.size) (hgy : gy < w.heap.size) :
    Calls Try.prog 44 #[.slice (some ⟨gx, 0, none⟩) n cx, .slice (some ⟨gy, 0, none⟩) n cy0, .int .i64 (c : Int)] w (MadeSum w n (x + y + c) (cy x y c n)) := by
  obtain ⟨i0, hi0, hz0, hz1, hz2⟩ := info_parts int_info
  have HC0 := Lib.hid (cy_zero x y c)
  obtain ⟨B, hB⟩ : ∃ B, B = w.heap.size := ⟨_, rfl⟩
  have HB := Lib.hid hB
  have hB' : B ≤ w.heap.size := Nat.le_of_eq hB
  rw [← hB] at hgx hgy
  clear hB
  have HX := Lib.hid hx
  have HY := Lib.hid hy
  clear hx hy
  go_enter Try.func44, Try.ntmps44
  go_wp2
  go_loopw [2, 8, 9] (fun q v i wr => ∃ k : Nat, k ≤ n ∧ i = .int .i64 k ∧ q = .int .i64 (cy x y c k) ∧ Own wr B v k (x + y + c) ∧ Below B w wr) (fun _ _ i _ => n - (intOf i).toNat)
  case atStart => exact ⟨0, Nat.zero_le _, rfl, by rw [HC0.out], World.ownsRow_nil _ _ _ _, Below.refl _ _⟩
  case round =>
    obtain ⟨k, hk, rfl, rfl, hown, hbel⟩ := hrel
    obtain ⟨p0, p1⟩ := cy_bd x y c k hc
    by_cases hlt : (k : Int) < n
    · have e1 := HX.out.below hbel hgx k (by omega)
      have e2 := HY.out.below hbel hgy k (by omega)
      rw [Nat.zero_add] at e1 e2
      obtain ⟨x0, x1⟩ := bt_bd x k
      obtain ⟨y0, y1⟩ := bt_bd y k
      obtain ⟨s1, s2⟩ := cy_step x y c k
      have S1 := Lib.hid s1
      have S2 := Lib.hid s2
      clear s1 s2
      have hk0 : (0 : Int) ≤ (k : Int) := by omega
      go_wp2
      go_quiet (fail)
      have hown' : Own (wr.drewN nq) B _ k (x + y + c) := hown
      have hbel' := below_drewN hbel nq
      clear hown hbel e1 e2
      generalize wr.drewN nq = W at *
      go_wp2_with (at_builtin; refine wpList_append_own _ rfl _ _ 42 rfl B 3 i0 (.int .i64 0) 1 8 Try.underlying42 hi0 hz0 hz1 hz2 rfl (by decide) _ _ _ rfl (hown'.alloc _) ⟨W.heap.size, 0, none⟩ 1 1 [.int .i64 ((bt x k + bt y k + cy x y c k) % 2)] rfl rfl ?c1 ?c2 ?c3 ?c4 ?c5 ?_)
      case c1 =>
        intro j u hj
        match j, hj with
        | 0, hj => simp at hj; subst hj; simp [Addr.add]
      case c2 => intro u hu; simp at hu; subst hu; rfl
      case c3 => unfold maxLen; omega
      case c4 => omega
      case c5 => have := hbel'.size; simp; omega
      intro v' w1 hown2 hgrow _
      have R := own_step hB' hown' hbel' hown2 S1.out hgrow
      clear hown' hgrow hown2 hbel'
      go_wp2
      go_roundw
      case rel => exact ⟨k + 1, by omega, by go_num, by rw [← S2.out], R.1, R.2⟩
      case measure => simp [intOf]; omega
    · have hk' : n = k := by omega
      subst hk'
      obtain ⟨g, cap, rfl, hg1, hg2⟩ := World.ownsRow.form hown hn0
      go_wp2
      go_ret2
      rw [HB.out] at hown hbel
      exact ⟨g, cap, rfl, hown, hbel⟩
/-! ### Shifts of lists -/
theorem made_zeros (n : Nat) : (madeCells (Value.int .i64 0).cells (n * 1)).toList = bl n 0 := by
  rw [bl_null, Nat.mul_one]; exact toList_madeCells_one _ _
set_option maxHeartbeats 2000000 in
theorem lleft_any (g cx x k : Nat) (hk : k < 64) (w : World) (hx : BitsAt w g 0 64 x) (hg : g < w.heap.size) :
    Calls Try.prog 47 #[.slice (some ⟨g, 0, none⟩) 64 cx, .int .i64 (k : Int)] w (MadeBits w 64 (x * 2 ^ k)) := by
  obtain ⟨i0, hi0, hz0, hz1, hz2⟩ := info_parts int_info
  have HX := Lib.hid hx
  have h0 : x * 2 ^ k % 2 ^ k = 0 := Nat.mul_mod_left _ _
  have H0 := Lib.hid h0
  clear hx h0
  go_enter Try.func47, Try.ntmps47
  go_wp2_with (at_make; refine wpList_make_full _ rfl _ _ 42 rfl w.heap.size 3 i0 (.int .i64 0) 1 Try.underlying42 hi0 hz0 hz1 .i64 .i64 _ _ 64 rfl rfl (by omega) (by omega) (by rw [hz2]; omega) (by unfold maxLen; omega) (Nat.le_refl _) ?_; intro w0 hown0 hgrow0)
  have hown1 : Own w0 w.heap.size (.slice (some ⟨w.heap.size, 0, none⟩) 64 64) 64 0 := by unfold Own; rw [← made_zeros]; exact hown0
  have hbel1 : Below w.heap.size w w0 := (Below.refl _ _).grown hgrow0 (Nat.le_refl _) (by simp)
  clear hown0 hgrow0
  go_loopw [6] (fun i wr => ∃ j : Nat, k ≤ j ∧ j ≤ 64 ∧ i = .int .i64 j ∧ Own wr w.heap.size (.slice (some ⟨w.heap.size, 0, none⟩) 64 64) 64 (x * 2 ^ k % 2 ^ j) ∧ Below w.heap.size w wr) (fun i _ => 64 - (intOf i).toNat)
  case atStart => exact ⟨k, Nat.le_refl _, by omega, rfl, by rw [H0.out]; exact hown1, hbel1⟩
  case round =>
    obtain ⟨j, hj0, hj, rfl, hown, hbel⟩ := hrel
    clear hown1 hbel1
    by_cases hlt : (j : Int) < 64
    · have e1 := HX.out.below hbel hg (j - k) (by omega)
      rw [Nat.zero_add] at e1
      have e2 := World.ownsRow.cellAt hown j (by omega)
      rw [bl_at _ _ _ (by omega)] at e2
      have e3 := World.ownsRow.frozenAt hown j
      have hk0 : (0 : Int) ≤ (j : Int) := by omega
      have S := World.ownsRow.stored hown j (.int .i64 (bt x (j - k)))
      have hS := Lib.hid S
      have E := Lib.hid (bl_set 64 (x * 2 ^ k) j (bt x (j - k)) (by omega) (bt_shl x j k hj0))
      clear S
      have i1 : (0 : Int) ≤ (j : Int) - k := by omega
      have i2 : (j : Int) - k < 64 := by omega
      go_wp2
      go_roundw
      case rel => exact ⟨j + 1, by omega, by omega, by go_num, by unfold Own; rw [← E.out]; exact hS.out.1, hbel.setCell (Nat.le_refl _) _⟩
      case measure => simp [intOf]; omega
    · have hk' : j = 64 := by omega
      subst hk'
      have hfin : Own wr w.heap.size (.slice (some ⟨w.heap.size, 0, none⟩) 64 64) 64 (x * 2 ^ k) := by unfold Own at hown ⊢; rw [bl_mod] at hown; exact hown
      clear hown
      go_wp2
      go_ret
      exact ⟨w.heap.size, 64, rfl, hfin, hbel⟩
set_option maxHeartbeats 2000000 in
theorem lright_any (g cx x k : Nat) (hk : k < 64) (hx64 : x < 18446744073709551616) (w : World) (hx : BitsAt w g 0 64 x) (hg : g < w.heap.size) :
    Calls Try.prog 54 #[.slice (some ⟨g, 0, none⟩) 64 cx, .int .i64 (k : Int)] w (MadeBits w 64 (x / 2 ^ k)) := by
  obtain ⟨i0, hi0, hz0, hz1, hz2⟩ := info_parts int_info
  have HX := Lib.hid hx
  have h0 : x / 2 ^ k % 2 ^ 0 = 0 := Nat.mod_one _
  have h9 : x / 2 ^ k % 2 ^ (64 - k) = x / 2 ^ k := Nat.mod_eq_of_lt ((Nat.div_lt_iff_lt_mul (Nat.pow_pos (by omega))).2 (by rw [← Nat.pow_add, show 64 - k + k = 64 by omega]; exact hx64))
  have H0 := Lib.hid h0
  have H9 := Lib.hid h9
  clear hx h0 h9 hx64
  go_enter Try.func54, Try.ntmps54
  go_wp2_with (at_make; refine wpList_make_full _ rfl _ _ 42 rfl w.heap.size 3 i0 (.int .i64 0) 1 Try.underlying42 hi0 hz0 hz1 .i64 .i64 _ _ 64 rfl rfl (by omega) (by omega) (by rw [hz2]; omega) (by unfold maxLen; omega) (Nat.le_refl _) ?_; intro w0 hown0 hgrow0)
  have hown1 : Own w0 w.heap.size (.slice (some ⟨w.heap.size, 0, none⟩) 64 64) 64 0 := by unfold Own; rw [← made_zeros]; exact hown0
  have hbel1 : Below w.heap.size w w0 := (Below.refl _ _).grown hgrow0 (Nat.le_refl _) (by simp)
  clear hown0 hgrow0
  go_loopw [6] (fun i wr => ∃ j : Nat, j + k ≤ 64 ∧ i = .int .i64 j ∧ Own wr w.heap.size (.slice (some ⟨w.heap.size, 0, none⟩) 64 64) 64 (x / 2 ^ k % 2 ^ j) ∧ Below w.heap.size w wr) (fun i _ => 64 - (intOf i).toNat)
  case atStart => exact ⟨0, by omega, rfl, by rw [H0.out]; exact hown1, hbel1⟩
  case round =>
    obtain ⟨j, hj, rfl, hown, hbel⟩ := hrel
    clear hown1 hbel1
    by_cases hlt : (j : Int) + k < 64
    · have e1 := HX.out.below hbel hg (j + k) (by omega)
      rw [Nat.zero_add] at e1
      have e2 := World.ownsRow.cellAt hown j (by omega)
      rw [bl_at _ _ _ (by omega)] at e2
      have e3 := World.ownsRow.frozenAt hown j
      have hk0 : (0 : Int) ≤ (j : Int) := by omega
      have hS := Lib.hid (World.ownsRow.stored hown j (.int .i64 (bt x (j + k))))
      have E := Lib.hid (bl_set 64 (x / 2 ^ k) j (bt x (j + k)) (by omega) (bt_shr x j k))
      have i1 : (0 : Int) ≤ (j : Int) + k := by omega
      have i3 : (j : Int) < 64 := by omega
      go_wp2
      go_roundw
      case rel => exact ⟨j + 1, by omega, by go_num, by unfold Own; rw [← E.out]; exact hS.out.1, hbel.setCell (Nat.le_refl _) _⟩
      case measure => simp [intOf]; omega
    · have hk' : j = 64 - k := by omega
      subst hk'
      have hfin : Own wr w.heap.size (.slice (some ⟨w.heap.size, 0, none⟩) 64 64) 64 (x / 2 ^ k) := by rw [H9.out] at hown; exact hown
      clear hown
      go_wp2
      go_ret
      exact ⟨w.heap.size, 64, rfl, hfin, hbel⟩
end Go.Proofs.Ytikfbooihacjfaa
