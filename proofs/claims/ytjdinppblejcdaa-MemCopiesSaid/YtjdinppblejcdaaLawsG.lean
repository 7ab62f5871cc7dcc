/- The law on a memory that is used returns true for every size and every list of calls. -/
import Derived.Test.YtjdinppblejcdaaOpen
namespace Go.Proofs.Ytjdinppblejcdaa
open Go Go.RowKit

def ABool (e : Ending) : Prop := ∃ r, e = .returned (.bool r)
set_option maxRecDepth 100000 in
set_option maxHeartbeats 4000000 in
theorem great_any {A : Option Addr} {n c : Nat} {w : World} (H : IsOps w A n) (hn : n ≤ maxLen) : Calls Try.prog 12 #[.slice A n c] w fun e w' => ABool e ∧ w = w' := by
  have HO := Lib.hid H
  unfold maxLen at hn
  clear H
  go_enter Try.func12, Try.ntmps12
  go_wp2
  go_loopw [3, 4] (fun s i wr => ∃ (k : Nat) (q : Int), k ≤ n ∧ i = .int .i64 k ∧ s = .int .i64 q ∧ wr = w) (fun _ i _ => n - (intOf i).toNat)
  case atStart => exact ⟨0, 0, Nat.zero_le _, rfl, rfl, rfl⟩
  case round =>
    obtain ⟨k, q, hk, rfl, rfl, rfl⟩ := hrel
    have hk0 : (0 : Int) ≤ (k : Int) := by omega
    by_cases hlt : (k : Int) < (n : Int)
    · obtain ⟨ad, cs, rfl, ⟨q', a, b, v, m, B, d, ys, rfl, _, _, _, _, _, R, _⟩, _, hc⟩ := HO.out k (by omega)
      have c5 := hc 5 (by omega)
      rw [add_succ_, show (opc q' a b v m B ys.length d).toList[5]? = some (.slice B ys.length d) from rfl] at c5
      have hmx := Nat.le_trans R.le R.mx
      unfold maxLen at hmx
      clear hc R
      generalize ys.length = m5 at *
      by_cases h5 : (70000 : Int) < (m5 : Int)
      · go_wp2
        go_ret
        exact ⟨⟨_, rfl⟩, rfl⟩
      · go_wp2
        go_roundw
        case rel => exact ⟨k + 1, _, by omega, by go_num, rfl, trivial⟩
        case measure => simp [intOf]; omega
    · go_wp2
      all_goals
        go_ret
        exact ⟨⟨_, rfl⟩, rfl⟩
theorem IsOps.kept0 {w w' : World} {A : Option Addr} {n : Nat} (H : IsOps w A n) (hg : w.grownBy w' none) : IsOps w' A n := by
  intro i hi
  obtain ⟨ad, cs, e, ⟨q, a, b, v, m, B, d, ys, hcs, h1, h2, h3, h4, h5, R, hb⟩, hlt, hc⟩ := H i hi
  refine ⟨ad, cs, e, ⟨q, a, b, v, m, B, d, ys, hcs, h1, h2, h3, h4, h5, R.kept0 hg, fun h0 ad e => Nat.lt_of_lt_of_le (hb h0 ad e) hg.size⟩, Nat.lt_of_lt_of_le hlt hg.size, fun j hj => ?_⟩
  rw [← hc j hj]
  exact World.cell?_of_block (hg.block _ (by rw [add_block, add_block]; exact hlt) (by simp))
/-- Call k of a list that came in at w, in a world that has grown: its six cells, and what does returns. -/
theorem one_op {w wr : World} {A : Option Addr} {n k : Nat} (H : IsOps w A n) (hk : k < n) (hg : w.grownBy wr none) {p g c' L : Nat} (hgw : w.heap.size ≤ g) {A' : Option Addr} {xs : List Nat} (B : Both wr p g A' c' xs) (hL : xs.length = L) :
    ∃ ad v0 v1 v2 v3 v4 v5, A = some ad ∧ (wr.cell? (ad.add (k * 6)) = some v0 ∧ wr.cell? ⟨(ad.add (k * 6)).block, (ad.add (k * 6)).off + 1, none⟩ = some v1 ∧ wr.cell? ⟨(ad.add (k * 6)).block, (ad.add (k * 6)).off + 2, none⟩ = some v2 ∧
      wr.cell? ⟨(ad.add (k * 6)).block, (ad.add (k * 6)).off + 3, none⟩ = some v3 ∧ wr.cell? ⟨(ad.add (k * 6)).block, (ad.add (k * 6)).off + 4, none⟩ = some v4 ∧ wr.cell? ⟨(ad.add (k * 6)).block, (ad.add (k * 6)).off + 5, none⟩ = some v5) ∧
      Hid (Calls Try.prog 14 #[.pointer (some ⟨p, 0, none⟩), .slice A' L c', .agg #[v0, v1, v2, v3, v4, v5]] wr (Done wr p g A' L)) := by
  obtain ⟨ad, cs, e, ⟨q, a, b, v, m, Bx, d, ys, hcs, h1, h2, h3, h4, h5, R, hb⟩, hlt, hc⟩ := H k hk
  subst hcs
  have hw : ∀ j, j < 6 → wr.cell? ((ad.add (k * 6)).add j) = (opc q a b v m Bx ys.length d).toList[j]? := fun j hj => by
    rw [← hc j hj]
    exact World.cell?_of_block (hg.block _ (by rw [add_block, add_block]; exact hlt) (by simp))
  have c0 := hw 0 (by omega)
  have c1 := hw 1 (by omega)
  have c2 := hw 2 (by omega)
  have c3 := hw 3 (by omega)
  have c4 := hw 4 (by omega)
  have c5 := hw 5 (by omega)
  rw [show (1 : Nat) = 0 + 1 from rfl, add_succ_] at c1
  rw [show (2 : Nat) = 1 + 1 from rfl, add_succ_] at c2
  rw [show (3 : Nat) = 2 + 1 from rfl, add_succ_] at c3
  rw [show (4 : Nat) = 3 + 1 from rfl, add_succ_] at c4
  rw [show (5 : Nat) = 4 + 1 from rfl, add_succ_] at c5
  have c0' : wr.cell? (ad.add (k * 6)) = some (.int .u8 q) := by
    rw [← show (ad.add (k * 6)).add 0 = ad.add (k * 6) by unfold Addr.add; simp]
    exact c0
  refine ⟨ad, _, _, _, _, _, _, e, ⟨c0', c1, c2, c3, c4, c5⟩, ?_⟩
  have := does_any B (q := q) (a := a) (b := b) (v := v) (n := m) (d := d) h1.1 h1.2 h2 h3 h5 (R.kept0 hg) (fun h0 ad e e' => by have := hb h0 ad e; omega)
  rw [hL] at this
  exact this
/-- Behind k calls the memory p and the bytes y agree. -/
def Played (w : World) (n L p g : Nat) (y i : Value) (wr : World) : Prop := ∃ (k : Nat) (A' : Option Addr) (c' : Nat) (xs : List Nat), k ≤ n ∧ i = .int .i64 k ∧ y = .slice A' L c' ∧ Hid (xs.length = L ∧ w.grownBy wr none ∧ Both wr p g A' c' xs)
set_option maxRecDepth 100000 in
theorem plays_no {A : Option Addr} {n c : Nat} {s : Int} (hm : may s = false) (w : World) : Calls Try.prog 3 #[.int .i64 s, .slice A n c] w fun e w' => e = .returned (.bool true) ∧ Below w.heap.size w w' := by
  have C := Lib.hid (fun (w1 : World) => New_no hm w1)
  have M := Lib.hid (fun (w1 : World) => at_ (May_any s w1) (ret_b hm))
  clear hm
  go_enter Try.func3, Try.ntmps3
  go_wp2_with (first
    | (go_at_call 10; (with_reducible refine (C.out _).mono ?_); rintro e w1 ⟨rfl, rfl⟩)
    | (go_at_call 11; (with_reducible refine (M.out _).mono ?_); rintro e w2 ⟨rfl, rfl⟩)
    | (go_at_call 13; (with_reducible refine (head_any _).mono ?_); rintro e w9 ⟨rfl, g9⟩; have H9 := Lib.hid g9; clear g9))
  go_ret
  exact ⟨rfl, g_below0 H9.out⟩
set_option maxRecDepth 100000 in
set_option maxHeartbeats 8000000 in
theorem plays_ok {A : Option Addr} {n c L : Nat} {w : World} (H : IsOps w A n) (hn : n ≤ maxLen) (hm : may L = true) : Calls Try.prog 3 #[.int .i64 (L : Int), .slice A n c] w fun e w' => e = .returned (.bool true) ∧ Below w.heap.size w w' := by
  have hh : 1024 ≤ L ∧ L ≤ 65536 ∧ L % 4 = 0 := by unfold may at hm; simp at hm; omega
  have C := Lib.hid (fun (w1 : World) => New_ok hm w1)
  have M := Lib.hid (fun (w1 : World) => at_ (May_any L w1) (ret_b hm))
  have hmk := run_zeros L hh.2.1
  have HO := Lib.hid H
  have HN := Lib.hid hn
  have HL := Lib.hid hh
  unfold maxLen at hn
  clear H hm hh
  go_enter Try.func3, Try.ntmps3
  go_wp2_with (first
    | (go_at_call 10; (with_reducible refine (C.out _).mono ?_); rintro e w1 ⟨p, rfl, g, hp, hg, G, M1⟩; have H1 := Lib.hid (And.intro hg (And.intro G M1)); clear hp hg G M1)
    | (go_at_call 11; (with_reducible refine (M.out _).mono ?_); rintro e w2 ⟨rfl, rfl⟩)
    | (go_at_call 12; (with_reducible refine (great_any (HO.out.kept0 H1.out.2.1) HN.out).mono ?_); rintro e w3 ⟨⟨r, rfl⟩, rfl⟩)
    | (go_at_call 13; (with_reducible refine (head_any _).mono ?_); rintro e w9 ⟨rfl, g9⟩; have H9 := Lib.hid g9; clear g9))
  · go_ret
    exact ⟨rfl, g_below0 (g_trans H1.out.2.1 H9.out)⟩
  · obtain rfl : r = false := by assumption
    have B0 : Both (w1.alloc (.cells (zc L) 5)) p g (some ⟨w1.heap.size, 0, none⟩) L (List.replicate L 0) :=
      ⟨H1.out.2.2.kept0 (World.grownBy_alloc w1 _ none), by
        have := rs_of_row (zc_row w1 L) (by have := HL.out; simp [maxLen]; omega) (by intro x hx; rw [List.eq_of_mem_replicate hx]; omega)
        rwa [List.length_replicate] at this, by
        intro ad e
        cases e
        have := H1.out.2.2.glt
        intro e
        exact Nat.lt_irrefl _ (e ▸ this)⟩
    have B1 := Lib.hid (And.intro (List.length_replicate (n := L) (a := 0)) (And.intro (g_trans H1.out.2.1 (World.grownBy_alloc w1 (.cells (zc L) 5) none)) B0))
    have HG := Lib.hid H1.out.1
    clear B0 H1
    generalize w1.heap.size = k0 at *
    generalize w1.alloc (.cells (zc L) 5) = W1 at *
    go_loopw [7, 8] (fun y i wr => Played w n L p g y i wr) (fun _ i _ => n - (intOf i).toNat)
    case atStart => exact ⟨0, _, _, _, Nat.zero_le _, rfl, rfl, B1.out⟩
    case round =>
      obtain ⟨k, A', c', xs, hk, rfl, rfl, R⟩ := id hrel
      clear hrel
      have hk0 : (0 : Int) ≤ (k : Int) := by omega
      by_cases hlt : (k : Int) < (n : Int)
      · obtain ⟨ad, v0, v1, v2, v3, v4, v5, rfl, ⟨c0, c1, c2, c3, c4, c5⟩, D⟩ := one_op (k := k) HO.out (by omega) R.out.2.1 HG.out R.out.2.2 R.out.1
        go_wp2_with (go_at_call 14; (with_reducible refine D.out.mono ?_); rintro e w5 ⟨A5, c6, ys, rfl, hy, G, M5, R5, N5⟩; have H5 := Lib.hid (And.intro hy (And.intro (g_new R.out.2.1 G HG.out) (Both.mk M5 R5 (N5.sep R.out.2.2.sep R.out.2.2.mem.glt)))); clear hy G M5 R5 N5)
        go_roundw
        case rel => exact ⟨k + 1, A5, c6, ys, by omega, by go_num, rfl, H5.out⟩
        case measure => simp [intOf]; omega
      · have S := fun (w2 : World) (A2 : Option Addr) (c2 : Nat) (R1 : RS w2 A2 c2 xs) (R2 : RS w2 A' c' xs) => Same_any R1 R2
        have CB := Bytes_any R.out.2.2.mem
        have CS := fun (w2 : World) (M2 : MemAt w2 p g xs) => Size_any M2
        rw [R.out.1] at S CB CS
        have S := Lib.hid S
        have CB := Lib.hid CB
        have CS := Lib.hid CS
        go_wp2_with (first
          | (go_at_call 16; (with_reducible refine CB.out.mono ?_); rintro e w6 ⟨rfl, G, r⟩; have H6 := Lib.hid (And.intro (g_trans R.out.2.1 G) (And.intro (R.out.2.2.kept0 G) (rs_of_row r (by have := R.out.1; have := HL.out; unfold maxLen; omega) R.out.2.2.mem.by_))); rw [R.out.1] at H6; clear G r)
          | (go_at_call 15; (with_reducible refine (S.out _ _ _ H6.out.2.2 H6.out.2.1.ref).mono ?_); rintro e w7 ⟨rfl, rfl⟩)
          | (go_at_call 17; (with_reducible refine (CS.out _ H6.out.2.1.mem).mono ?_); rintro e w7 ⟨rfl, rfl⟩)
          | (go_at_call 13; (with_reducible refine (head_any _).mono ?_); rintro e w9 ⟨rfl, g9⟩; have H9 := Lib.hid g9; clear g9))
        go_ret
        exact ⟨rfl, g_below0 (g_trans H6.out.1 H9.out)⟩
theorem walkMemPlays (a0 : Int) (a1 : Option Addr) (len1 cap1 : Nat) (w : World) (w0 : (Lit.int .i64 a0).wf = true) (w1 : IsOps w a1 len1 ∧ len1 ≤ maxLen) :
    Calls Try.prog 3 #[.int .i64 a0, .slice a1 len1 cap1] w fun e w' => e = .returned (.bool true) ∧ Below w.heap.size w w' := by
  rcases hm : may a0 with _ | _
  · exact plays_no hm w
  · obtain ⟨L, rfl⟩ := Int.eq_ofNat_of_zero_le (show 0 ≤ a0 by unfold may at hm; simp at hm; omega)
    exact plays_ok w1.1 w1.2 hm
end Go.Proofs.Ytjdinppblejcdaa
