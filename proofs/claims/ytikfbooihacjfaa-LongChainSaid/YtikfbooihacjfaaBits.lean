/- The reference's lists of bits: what bits, double and word return. -/
import Derived.Test.YtikfbooihacjfaaDw
import Derived.WalkSpells
import Derived.WalkLawsBesides
import Derived.Handy
import Derived.Laws.Shifts
import Derived.Deep.QuietTactic
import Derived.BigQuiet
import Derived.Deep.AppendLies
import Derived.Laws.OwnMore
import Derived.OwnWalk
namespace Go.Proofs.Ytikfbooihacjfaa
open Go Go.RowKit

theorem int_info : (Try.prog.info? 3).map (fun i => (i.zero, i.size, i.bytes)) = some (some (.int .i64 0), 1, 8) := by kernel_rfl
/-- The slice value v is the call's own row of the lowest n bits of m. -/
def Own (w : World) (B : Nat) (v : Value) (n m : Nat) : Prop := w.ownsRow B 3 1 v n (bl n m)
/-- A list of n bits of m was made; nothing that was there has changed. -/
def MadeBits (w : World) (n m : Nat) (e : Ending) (w' : World) : Prop :=
  ∃ g cap, e = .returned (.slice (some ⟨g, 0, none⟩) n cap) ∧ Own w' w.heap.size (.slice (some ⟨g, 0, none⟩) n cap) n m ∧ Below w.heap.size w w'
/-- The n cells from o on in block g are the lowest n bits of m. -/
def BitsAt (w : World) (g o n m : Nat) : Prop := ∀ j, j < n → w.cell? ⟨g, o + j, none⟩ = some (.int .i64 (bt m j))

/-- One element more. -/
theorem own_step {w wr w' : World} {B k m : Nat} {v v' : Value} {o : Obj} {b : Int} (hB : B ≤ w.heap.size) (hown : Own wr B v k m) (hbel : Below B w wr) (h : w'.ownsRow B 3 1 v' (k + 1) (bl k m ++ [Value.int .i64 b])) (hb : b = bt m k)
    (hg : (wr.alloc o).grownBy w' v.ownBlock) : Own w' B v' (k + 1) m ∧ Below B w w' := by
  subst hb
  refine ⟨?_, ?_⟩
  · unfold Own; rw [bl_succ]; exact h
  · exact (hbel.alloc (Nat.le_trans hB hbel.size) o).grown hg (Nat.le_trans hB (Nat.le_trans hbel.size (by simp))) (fun g hk => (hown.lt g hk).1)
theorem Value_any (a : Int) (ha : isW a) (w : World) : Calls Try.prog 49 #[.int .i32 a] w fun e w' => e = .returned (.int .i64 (U a)) ∧ w = w' := by
  have h := U_cast a
  unfold isW at ha
  obtain ⟨a0, a1⟩ := ha
  by_cases hn : a < 0
  · have E := Lib.hid (show a + 4294967296 = U a by omega)
    clear h
    go_enter Try.func49, Try.ntmps49
    go_wp2
    go_ret
    exact ⟨ret_i E.out, rfl⟩
  · have E := Lib.hid (show a = U a by omega)
    clear h
    go_enter Try.func49, Try.ntmps49
    go_wp2
    go_ret
    exact ⟨ret_i E.out, rfl⟩
theorem Word_any (n : Nat) (hn : n < 4294967296) (w : World) : Calls Try.prog 50 #[.int .i64 (n : Int)] w fun e w' => e = .returned (.int .i32 (wd n)) ∧ w = w' := by
  by_cases h : (2147483648 : Int) ≤ (n : Int)
  · have E := Lib.hid (show (n : Int) - 4294967296 = wd n by unfold wd wrap32; omega)
    go_enter Try.func50, Try.ntmps50
    go_wp2
    go_ret
    exact ⟨ret_i E.out, rfl⟩
  · have E := Lib.hid (show (n : Int) = wd n by unfold wd wrap32; omega)
    go_enter Try.func50, Try.ntmps50
    go_wp2
    go_ret
    exact ⟨ret_i E.out, rfl⟩
set_option maxHeartbeats 1000000 in
theorem bits_any (a : Int) (ha : isW a) (w : World) : Calls Try.prog 38 #[.int .i32 a] w (MadeBits w 32 (U a)) := by
  obtain ⟨i0, hi, hz0, hz1, hz2⟩ := info_parts int_info
  have HV := Lib.hid (Value_any a ha)
  have hm := U_lt a
  generalize U a = m at *
  have q0 := qt_zero m
  obtain ⟨B, hB⟩ : ∃ B, B = w.heap.size := ⟨_, rfl⟩
  have HB := Lib.hid hB
  have hB' : B ≤ w.heap.size := Nat.le_of_eq hB
  clear hB
  have C : ∀ w : World, Calls Try.prog 49 #[.int .i32 a] w fun e w' => e = .returned (.int .i64 (qt m 0)) ∧ w = w' := by rw [q0]; exact HV.out
  have HC := Lib.hid C
  clear C q0
  go_enter Try.func38, Try.ntmps38
  go_wp2_with (go_at_call 49; refine (HC.out _).mono ?_; rintro e w' ⟨rfl, rfl⟩)
  go_loopw [3, 4, 5] (fun q v i wr => ∃ k : Nat, k ≤ 32 ∧ i = .int .i64 k ∧ q = .int .i64 (qt m k) ∧ Own wr B v k m ∧ Below B w wr) (fun _ _ i _ => 32 - (intOf i).toNat)
  case atStart => exact ⟨0, Nat.zero_le _, rfl, rfl, World.ownsRow_nil _ _ _ _, Below.refl _ _⟩
  case round =>
    obtain ⟨k, hk, rfl, rfl, hown, hbel⟩ := hrel
    obtain ⟨p0, p1⟩ := qt_bd m k hm
    by_cases hlt : (k : Int) < 32
    · have E1 := Lib.hid (qt_mod m k)
      have E2 := Lib.hid (qt_div m k)
      go_wp2_with (at_builtin; refine wpList_append_own _ rfl _ _ 42 rfl B 3 i0 (.int .i64 0) 1 8 Try.underlying42 hi hz0 hz1 hz2 rfl (by decide) _ _ _ rfl (hown.alloc _) ⟨wr.heap.size, 0, none⟩ 1 1 [.int .i64 (qt m k % 2)] rfl rfl ?c1 ?c2 ?c3 ?c4 ?c5 ?_)
      case c1 =>
        intro j u hj
        match j, hj with
        | 0, hj => simp at hj; subst hj; simp [Addr.add]
      case c2 => intro u hu; simp at hu; subst hu; rfl
      case c3 => unfold maxLen; omega
      case c4 => omega
      case c5 => have := hbel.size; simp; omega
      intro v' w1 hown' hgrow _
      have R := own_step hB' hown hbel hown' E1.out hgrow
      clear hown' hgrow hown hbel
      go_wp2
      go_roundw
      case rel => exact ⟨k + 1, by omega, by go_num, by rw [← E2.out], R.1, R.2⟩
      case measure => simp [intOf]; omega
    · have hk' : k = 32 := by omega
      subst hk'
      obtain ⟨g, cap, rfl, hg1, hg2⟩ := World.ownsRow.form hown (by omega)
      go_wp2
      go_ret
      rw [HB.out] at hown hbel
      exact ⟨g, cap, rfl, hown, hbel⟩

/-! ### Lists read -/
theorem Own.row {w : World} {B n m : Nat} {v : Value} (h : Own w B v n m) (hn : 0 < n) : ∃ g cap, v = .slice (some ⟨g, 0, none⟩) n cap ∧ n ≤ cap ∧ B ≤ g ∧ g < w.heap.size ∧ BitsAt w g 0 n m := by
  obtain ⟨g, cap, rfl, h1, h2⟩ := World.ownsRow.form h hn
  have hcap : n ≤ cap := by
    rcases h.2 with ⟨h0, _⟩ | ⟨g', cap', cur, hv, _, _, hnc, _⟩
    · cases h0
    · cases hv; exact hnc
  refine ⟨g, cap, rfl, hcap, h1, h2, fun j hj => ?_⟩
  have := h.cellAt j (by omega)
  rw [bl_at n m j hj] at this
  rw [Nat.zero_add]
  exact this
theorem BitsAt.below {w w' : World} {g o n m B : Nat} (h : BitsAt w g o n m) (hb : Below B w w') (hg : g < B) : BitsAt w' g o n m := fun j hj => (hb.cell (p := ⟨g, o + j, none⟩) hg).trans (h j hj)
theorem BitsAt.low {w : World} {g n m k : Nat} (h : BitsAt w g 0 n m) (hk : k ≤ n) : BitsAt w g 0 k m := fun j hj => h j (by omega)
theorem BitsAt.high {w : World} {g n m k : Nat} (h : BitsAt w g 0 n m) : BitsAt w g k (n - k) (m / 2 ^ k) := fun j hj => by
  have := h (k + j) (by omega)
  rw [Nat.zero_add] at this
  rw [this, bt_shr, Nat.add_comm k j]
set_option maxHeartbeats 1000000 in
theorem word_any (g o c m : Nat) (hm : m < 4294967296) (w : World) (hr : BitsAt w g o 32 m) : Calls Try.prog 45 #[.slice (some ⟨g, o, none⟩) 32 c] w fun e w' => e = .returned (.int .i32 (wd m)) ∧ w = w' := by
  have HR := Lib.hid hr
  clear hr
  have hW := Word_any m hm
  have hq : qt m 0 = (m : Int) := qt_zero m
  rw [← hq] at hW
  have HW := Lib.hid hW
  clear hW hq
  have hz : qt m 32 = 0 := by unfold qt; rw [Nat.div_eq_of_lt (by omega)]; rfl
  have HZ := Lib.hid hz
  clear hz
  go_enter Try.func45, Try.ntmps45
  go_wp2
  go_loop [3, 4] (fun v i => ∃ k : Nat, k ≤ 32 ∧ i = .int .i64 ((k : Int) - 1) ∧ v = .int .i64 (qt m k)) (fun _ i => (intOf i + 1).toNat)
  case atStart => exact ⟨32, by omega, by simp, by rw [HZ.out]⟩
  case round =>
    obtain ⟨k, hk, rfl, rfl⟩ := hrel
    rcases k with _ | j
    · have hneg : ¬ (0 : Int) ≤ ((0 : Nat) : Int) - 1 := by omega
      go_wp2_with (go_at_call 50; refine (HW.out _).mono ?_; rintro e w' ⟨rfl, rfl⟩)
      go_ret
      exact ⟨rfl, rfl⟩
    · obtain ⟨p0, p1⟩ := qt_bd m (j + 1) hm
      obtain ⟨p2, p3⟩ := bt_bd m j
      have hcell := HR.out j (by omega)
      have E := Lib.hid (show 2 * qt m (j + 1) + bt m j = qt m j by have := qt_mod m j; have := qt_div m j; omega)
      rw [show (((j + 1 : Nat) : Int) - 1) = (j : Int) by omega]
      have hj : j < 32 := by omega
      go_wp2
      go_round
      case rel => exact ⟨j, by omega, rfl, by rw [E.out]⟩
      case measure => simp [intOf]

/-! ### The list of a double word -/
theorem Own.below {w w' : World} {B n m : Nat} {v : Value} (h : Own w B v n m) (hb : Below w.heap.size w w') : Own w' B v n m := by
  refine World.ownsRow.kept (row := none) h ⟨hb.os, hb.tape, hb.output, hb.size, fun i hi _ => hb.block i hi⟩ ?_
  cases hv : v.ownBlock with
  | none => exact .inl rfl
  | some g => exact .inr (by simp)
theorem Own.cells {w : World} {B n m g cap : Nat} (h : Own w B (.slice (some ⟨g, 0, none⟩) n cap) n m) : ∀ j u, (bl n m)[j]? = some u → w.cell? ((⟨g, 0, none⟩ : Addr).add j) = some u := World.ownsRow.cells h rfl
set_option maxHeartbeats 1000000 in
theorem double_any (hi lo : Int) (hh : isW hi) (hl : isW lo) (w : World) : Calls Try.prog 46 #[.int .i32 hi, .int .i32 lo] w (MadeBits w 64 (DW hi lo)) := by
  obtain ⟨i0, hi0, hz0, hz1, hz2⟩ := info_parts int_info
  have HJ := Lib.hid (bl_join (U lo) (U hi) (U_lt lo))
  have HH := Lib.hid (bits_any hi hh)
  have HL := Lib.hid (bits_any lo hl)
  unfold DW
  generalize U lo = a at *
  generalize U hi = b at *
  go_enter Try.func46, Try.ntmps46
  go_wp2_with (first
    | (go_at_call 38; (with_reducible refine (HL.out _).mono ?_); rintro e w1 ⟨g1, c1, rfl, hown1, hb1⟩)
    | (go_at_call 38; (with_reducible refine (HH.out _).mono ?_); rintro e w2 ⟨g2, c2, rfl, hown2, hb2⟩)
    | (at_builtin; refine wpList_append_own _ rfl _ _ 42 rfl w.heap.size 3 i0 (.int .i64 0) 1 8 Try.underlying42 hi0 hz0 hz1 hz2 rfl (by decide) _ _ _ rfl (hown1.below hb2) ⟨g2, 0, none⟩ 32 c2 (bl 32 b) rfl (by rw [bl_len]) hown2.cells (bl_one _ _) (by unfold maxLen; omega) (by omega) (Nat.le_trans hb1.size hb2.size) ?_; intro v3 w3 hown3 hg3 _))
  have hown4 : Own w3 w.heap.size v3 64 (b * 4294967296 + a) := by unfold Own; rw [← HJ.out]; exact hown3
  have hb3 : Below w.heap.size w w3 := (hb1.trans (hb2.mono hb1.size)).grown hg3 (Nat.le_trans hb1.size hb2.size) (fun g hk => (hown1.lt g hk).1)
  clear hg3 hown3
  obtain ⟨g, cap, rfl, _, _⟩ := World.ownsRow.form hown4 (by omega)
  go_ret
  exact ⟨g, cap, rfl, hown4, hb3⟩
theorem BitsAt.trunc {w : World} {g o n m : Nat} (h : BitsAt w g o n m) : BitsAt w g o n (m % 2 ^ n) := fun j hj => by rw [bt_lo _ _ _ hj]; exact h j hj
theorem Own.at_ {w : World} {B n m g cap : Nat} (h : Own w B (.slice (some ⟨g, 0, none⟩) n cap) n m) : BitsAt w g 0 n m := fun j hj => by
  have := World.ownsRow.cellAt h j (by omega)
  rw [bl_at n m j hj] at this
  rw [Nat.zero_add]
  exact this
theorem Own.lt {w : World} {B n m g cap : Nat} (h : Own w B (.slice (some ⟨g, 0, none⟩) n cap) n m) : B ≤ g ∧ g < w.heap.size := World.ownsRow.lt h g rfl
theorem Own.capd {w : World} {B n m g cap : Nat} (h : Own w B (.slice (some ⟨g, 0, none⟩) n cap) n m) : n ≤ cap ∧ cap ≤ maxLen := by
  rcases h.2 with ⟨h0, _⟩ | ⟨g', cap', cur, hv, _, _, hnc, hm, _⟩
  · cases h0
  · cases hv; exact ⟨hnc, hm⟩
end Go.Proofs.Ytikfbooihacjfaa
