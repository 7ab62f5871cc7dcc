/- The law on copies returns true for every size and every two lists of calls. -/
import Derived.Test.YtjdinppblejcdaaLawsG
namespace Go.Proofs.Ytjdinppblejcdaa
open Go Go.RowKit

/-- Two memories with their bytes, none of which lies in the other. -/
structure Two (w : World) (p g p' g' : Nat) (A : Option Addr) (c : Nat) (xs : List Nat) (A' : Option Addr) (c' : Nat) (ys : List Nat) : Prop where
  one : Both w p g A c xs
  two : Both w p' g' A' c' ys
  s1 : Sep A g'
  s2 : Sep A' g
  n1 : p ≠ g'
  n2 : p' ≠ g
  n3 : g ≠ g'
section
variable {w w' : World} {p g p' g' c c' c2 : Nat} {A A' A2 : Option Addr} {xs ys zs : List Nat}
theorem Two.swap (T : Two w p g p' g' A c xs A' c' ys) : Two w p' g' p g A' c' ys A c xs := ⟨T.two, T.one, T.s2, T.s1, T.n2, T.n1, T.n3.symm⟩
theorem Two.step (T : Two w p g p' g' A c xs A' c' ys) (G : w.grownBy w' (some g)) (M : MemAt w' p g zs) (R : RS w' A2 c2 zs) (N : New w A A2) : Two w' p g p' g' A2 c2 zs A' c' ys :=
  ⟨⟨M, R, N.sep T.one.sep T.one.mem.glt⟩, ⟨T.two.mem.kept G (by intro e; cases e; exact T.n2 rfl) (by intro e; cases e; exact T.n3 rfl), T.two.ref.keptS G T.s2, T.two.sep⟩, N.sep T.s1 T.two.mem.glt, T.s2, T.n1, T.n2, T.n3⟩
theorem Two.kept0 (T : Two w p g p' g' A c xs A' c' ys) (G : w.grownBy w' none) : Two w' p g p' g' A c xs A' c' ys := ⟨T.one.kept0 G, T.two.kept0 G, T.s1, T.s2, T.n1, T.n2, T.n3⟩
end
theorem two_start {w1 w3 : World} {p g p' g' L : Nat} (M1 : MemAt w1 p g (List.replicate L 0)) (hp : (w1.alloc (.cells (zc L) 5)).heap.size ≤ p') (hg : (w1.alloc (.cells (zc L) 5)).heap.size ≤ g') (G : (w1.alloc (.cells (zc L) 5)).grownBy w3 none)
    (M3 : MemAt w3 p' g' (List.replicate L 0)) (hL : 1024 ≤ L ∧ L ≤ 65536 ∧ L % 4 = 0) :
    Two (w3.alloc (.cells (zc L) 5)) p g p' g' (some ⟨w1.heap.size, 0, none⟩) L (List.replicate L 0) (some ⟨w3.heap.size, 0, none⟩) L (List.replicate L 0) := by
  have hs : (w1.alloc (.cells (zc L) 5)).heap.size = w1.heap.size + 1 := by simp
  have a1 := M1.plt
  have a2 := M1.glt
  have a3 := M3.plt
  have a4 := M3.glt
  have a5 := G.size
  rw [hs] at hp hg a5
  have hb : BY (List.replicate L 0) := by intro x hx; rw [List.eq_of_mem_replicate hx]; omega
  have hm : (List.replicate L 0).length ≤ maxLen := by simp [maxLen]; omega
  have r1 := ((rs_of_row (zc_row w1 L) hm hb).kept0 G).kept0 (World.grownBy_alloc w3 (.cells (zc L) 5) none)
  have r2 := rs_of_row (zc_row w3 L) hm hb
  rw [List.length_replicate] at r1 r2
  refine ⟨⟨((M1.kept0 (World.grownBy_alloc w1 _ none)).kept0 G).kept0 (World.grownBy_alloc w3 _ none), r1, ?_⟩, ⟨M3.kept0 (World.grownBy_alloc w3 _ none), r2, ?_⟩, ?_, ?_, by omega, by omega, by omega⟩
  all_goals
    intro ad e
    cases e
    simp only [ne_eq]
    omega
def Paired (w : World) (n m L p g p' g' : Nat) (y z i : Value) (wr : World) : Prop := ∃ (k : Nat) (A : Option Addr) (c : Nat) (xs : List Nat) (A' : Option Addr) (c' : Nat) (ys : List Nat), k ≤ n + m ∧ i = .int .i64 k ∧ y = .slice A L c ∧ z = .slice A' L c' ∧
  Hid (xs.length = L ∧ ys.length = L ∧ w.grownBy wr none ∧ Two wr p g p' g' A c xs A' c' ys)
set_option maxRecDepth 100000 in
set_option maxHeartbeats 4000000 in
theorem copies_no {A B : Option Addr} {n c m d : Nat} {s : Int} {w : World} (H : IsOps w A n) (hn : n ≤ maxLen) (K : IsOps w B m) (hm : m ≤ maxLen) (hs : may s = false) :
    Calls Try.prog 9 #[.int .i64 s, .slice A n c, .slice B m d] w fun e w' => e = .returned (.bool true) ∧ Below w.heap.size w w' := by
  have C1 := Lib.hid (great_any (c := c) H hn)
  have C2 := Lib.hid (great_any (c := d) K hm)
  have M := Lib.hid (fun (w1 : World) => at_ (May_any s w1) (ret_b hs))
  clear H hn K hm hs
  go_enter Try.func9, Try.ntmps9
  go_wp2_with (first
    | (go_at_call 12; (with_reducible refine C1.out.mono ?_); rintro e w1 ⟨⟨r, rfl⟩, rfl⟩)
    | (go_at_call 12; (with_reducible refine C2.out.mono ?_); rintro e w1 ⟨⟨r2, rfl⟩, rfl⟩)
    | (go_at_call 11; (with_reducible refine (M.out _).mono ?_); rintro e w2 ⟨rfl, rfl⟩)
    | (go_at_call 13; (with_reducible refine (head_any _).mono ?_); rintro e w9 ⟨rfl, g9⟩; have H9 := Lib.hid g9; clear g9))
  all_goals
    go_ret
    exact ⟨rfl, g_below0 H9.out⟩
set_option maxRecDepth 100000 in
set_option maxHeartbeats 16000000 in
theorem copies_ok {A B : Option Addr} {n c m d L : Nat} {w : World} (H : IsOps w A n) (hn : n ≤ maxLen) (K : IsOps w B m) (hm : m ≤ maxLen) (hs : may L = true) :
    Calls Try.prog 9 #[.int .i64 (L : Int), .slice A n c, .slice B m d] w fun e w' => e = .returned (.bool true) ∧ Below w.heap.size w w' := by
  have hh : 1024 ≤ L ∧ L ≤ 65536 ∧ L % 4 = 0 := by unfold may at hs; simp at hs; omega
  have C1 := Lib.hid (great_any (c := c) H hn)
  have C2 := Lib.hid (great_any (c := d) K hm)
  have M := Lib.hid (fun (w1 : World) => at_ (May_any L w1) (ret_b hs))
  have C := Lib.hid (fun (w1 : World) => New_ok hs w1)
  have CC := Lib.hid (fun (w1 : World) (p g : Nat) (M1 : MemAt w1 p g (List.replicate L 0)) => Copy_any M1)
  have hmk := run_zeros L hh.2.1
  have HO := Lib.hid (And.intro H K)
  have HL := Lib.hid hh
  unfold maxLen at hn hm
  clear H K hs hh
  go_enter Try.func9, Try.ntmps9
  go_wp2_with (first
    | (go_at_call 12; (with_reducible refine C1.out.mono ?_); rintro e w1 ⟨⟨r, rfl⟩, rfl⟩)
    | (go_at_call 12; (with_reducible refine C2.out.mono ?_); rintro e w1 ⟨⟨r2, rfl⟩, rfl⟩)
    | (go_at_call 11; (with_reducible refine (M.out _).mono ?_); rintro e w2 ⟨rfl, rfl⟩)
    | (go_at_call 10; (with_reducible refine (C.out _).mono ?_); rintro e w1 ⟨p, rfl, g, hp, hg, G, M1⟩; have H1 := Lib.hid (And.intro hg (And.intro G M1)); clear hp hg G M1)
    | (go_at_call 33; (with_reducible refine (CC.out _ _ _ (H1.out.2.2.kept0 (World.grownBy_alloc w1 (.cells (zc L) 5) none))).mono ?_); rintro e w3 ⟨p', rfl, g', hp, hg, G, M3⟩; have H3 := Lib.hid (And.intro (And.intro hp hg) (And.intro G M3)); clear hp hg G M3)
    | (go_at_call 13; (with_reducible refine (head_any _).mono ?_); rintro e w9 ⟨rfl, g9⟩; have H9 := Lib.hid g9; clear g9))
  · go_ret
    exact ⟨rfl, g_below0 H9.out⟩
  · go_ret
    exact ⟨rfl, g_below0 H9.out⟩
  · obtain rfl : r = false := by first | assumption | exact Bool.eq_false_iff.2 (by assumption)
    obtain rfl : r2 = false := by first | assumption | exact Bool.eq_false_iff.2 (by assumption)
    have T0 := Lib.hid (two_start H1.out.2.2 H3.out.1.1 H3.out.1.2 H3.out.2.1 H3.out.2.2 HL.out)
    have HG := Lib.hid (And.intro H1.out.1 (Nat.le_trans (Nat.le_trans H1.out.2.1.size (show w1.heap.size ≤ (w1.alloc (.cells (zc L) 5)).heap.size by simp)) H3.out.1.2))
    have GW := Lib.hid (g_trans (g_trans (g_trans H1.out.2.1 (World.grownBy_alloc w1 (.cells (zc L) 5) none)) H3.out.2.1) (World.grownBy_alloc w3 (.cells (zc L) 5) none))
    clear H1 H3
    generalize w1.heap.size = k1 at *
    generalize w3.heap.size = k2 at *
    generalize w3.alloc (.cells (zc L) 5) = W4 at *
    go_loopw [9, 11, 12] (fun y z i wr => Paired w n m L p g p' g' y z i wr) (fun _ _ i _ => n + m - (intOf i).toNat)
    case atStart => exact ⟨0, _, _, _, _, _, _, Nat.zero_le _, rfl, rfl, rfl, List.length_replicate, List.length_replicate, GW.out, T0.out⟩
    case round =>
      obtain ⟨k, A1, e1, xs, A2, e2, ys, hk, rfl, rfl, rfl, R⟩ := id hrel
      clear hrel
      have hk0 : (0 : Int) ≤ (k : Int) := by omega
      by_cases h1 : (k : Int) < (n : Int)
      · obtain ⟨ad, v0, v1, v2, v3, v4, v5, rfl, ⟨c0, c1, c2, c3, c4, c5⟩, D⟩ := one_op (k := k) HO.out.1 (by omega) R.out.2.2.1 HG.out.1 R.out.2.2.2.one R.out.1
        by_cases h2 : (k : Int) < (m : Int)
        · have hkm := Lib.hid (show k < m by omega)
          go_wp2_with (first
            | (go_at_call 14; (with_reducible refine D.out.mono ?_); rintro e w5 ⟨A5, c6, zs, rfl, hz, G, M5, R5, N5⟩; have H5 := Lib.hid (And.intro hz (And.intro (g_new R.out.2.2.1 G HG.out.1) (R.out.2.2.2.step G M5 R5 N5))); clear hz G M5 R5 N5 c0 c1 c2 c3 c4 c5; obtain ⟨ad', x0, x1, x2, x3, x4, x5, rfl, ⟨d0, d1, d2, d3, d4, d5⟩, D'⟩ := one_op (k := k) HO.out.2 hkm.out H5.out.2.1 HG.out.2 H5.out.2.2.two R.out.2.1)
            | (go_at_call 14; (with_reducible refine D'.out.mono ?_); rintro e w6 ⟨A6, c7, zs', rfl, hz, G, M5, R5, N5⟩; have H6 := Lib.hid (And.intro hz (And.intro (g_new H5.out.2.1 G HG.out.2) (H5.out.2.2.swap.step G M5 R5 N5).swap)); clear hz G M5 R5 N5))
          go_roundw
          case rel => exact ⟨k + 1, A5, c6, zs, A6, c7, zs', by omega, by go_num, rfl, rfl, H5.out.1, H6.out.1, H6.out.2.1, H6.out.2.2⟩
          case measure => simp [intOf]; omega
        · go_wp2_with (go_at_call 14; (with_reducible refine D.out.mono ?_); rintro e w5 ⟨A5, c6, zs, rfl, hz, G, M5, R5, N5⟩; have H5 := Lib.hid (And.intro hz (And.intro (g_new R.out.2.2.1 G HG.out.1) (R.out.2.2.2.step G M5 R5 N5))); clear hz G M5 R5 N5)
          go_roundw
          case rel => exact ⟨k + 1, A5, c6, zs, A2, e2, ys, by omega, by go_num, rfl, rfl, H5.out.1, R.out.2.1, H5.out.2.1, H5.out.2.2⟩
          case measure => simp [intOf]; omega
      · by_cases h2 : (k : Int) < (m : Int)
        · obtain ⟨ad, v0, v1, v2, v3, v4, v5, rfl, ⟨c0, c1, c2, c3, c4, c5⟩, D⟩ := one_op (k := k) HO.out.2 (by omega) R.out.2.2.1 HG.out.2 R.out.2.2.2.two R.out.2.1
          go_wp2_with (go_at_call 14; (with_reducible refine D.out.mono ?_); rintro e w5 ⟨A5, c6, zs, rfl, hz, G, M5, R5, N5⟩; have H5 := Lib.hid (And.intro hz (And.intro (g_new R.out.2.2.1 G HG.out.2) (R.out.2.2.2.swap.step G M5 R5 N5).swap)); clear hz G M5 R5 N5)
          go_roundw
          case rel => exact ⟨k + 1, A1, e1, xs, A5, c6, zs, by omega, by go_num, rfl, rfl, R.out.1, H5.out.1, H5.out.2.1, H5.out.2.2⟩
          case measure => simp [intOf]; omega
        · have S1 := fun (w2 : World) (A2 : Option Addr) (c2 : Nat) (R1 : RS w2 A2 c2 xs) (R2 : RS w2 A1 e1 xs) => Same_any R1 R2
          have S2 := fun (w2 : World) (A' : Option Addr) (c2 : Nat) (R1 : RS w2 A' c2 ys) (R2 : RS w2 A2 e2 ys) => Same_any R1 R2
          have CB1 := Bytes_any R.out.2.2.2.one.mem
          have CB2 := fun (w2 : World) (M2 : MemAt w2 p' g' ys) => Bytes_any M2
          rw [R.out.1] at S1 CB1
          rw [R.out.2.1] at S2 CB2
          have S1 := Lib.hid S1
          have S2 := Lib.hid S2
          have CB1 := Lib.hid CB1
          have CB2 := Lib.hid CB2
          go_wp2_with (first
            | (go_at_call 16; (with_reducible refine CB1.out.mono ?_); rintro e w6 ⟨rfl, G, r⟩; have H6 := Lib.hid (And.intro (g_trans R.out.2.2.1 G) (And.intro (R.out.2.2.2.kept0 G) (rs_of_row r (by have := R.out.1; have := HL.out; unfold maxLen; omega) R.out.2.2.2.one.mem.by_))); rw [R.out.1] at H6; clear G r)
            | (go_at_call 15; (with_reducible refine (S1.out _ _ _ H6.out.2.2 H6.out.2.1.one.ref).mono ?_); rintro e w7 ⟨rfl, rfl⟩)
            | (go_at_call 16; (with_reducible refine (CB2.out _ H6.out.2.1.two.mem).mono ?_); rintro e w8 ⟨rfl, G, r⟩; have H8 := Lib.hid (And.intro (g_trans H6.out.1 G) (And.intro (H6.out.2.1.kept0 G) (rs_of_row r (by have := R.out.2.1; have := HL.out; unfold maxLen; omega) R.out.2.2.2.two.mem.by_))); rw [R.out.2.1] at H8; clear G r)
            | (go_at_call 15; (with_reducible refine (S2.out _ _ _ H8.out.2.2 H8.out.2.1.two.ref).mono ?_); rintro e w7 ⟨rfl, rfl⟩)
            | (go_at_call 13; (with_reducible refine (head_any _).mono ?_); rintro e w9 ⟨rfl, g9⟩; have H9 := Lib.hid g9; clear g9))
          go_ret
          exact ⟨rfl, g_below0 (g_trans H8.out.1 H9.out)⟩
theorem walkMemCopies (a0 : Int) (a1 : Option Addr) (len1 cap1 : Nat) (a2 : Option Addr) (len2 cap2 : Nat) (w : World) (w0 : (Lit.int .i64 a0).wf = true) (w1 : IsOps w a1 len1 ∧ len1 ≤ maxLen) (w2 : IsOps w a2 len2 ∧ len2 ≤ maxLen) :
    Calls Try.prog 9 #[.int .i64 a0, .slice a1 len1 cap1, .slice a2 len2 cap2] w fun e w' => e = .returned (.bool true) ∧ Below w.heap.size w w' := by
  rcases hm : may a0 with _ | _
  · exact copies_no w1.1 w1.2 w2.1 w2.2 hm
  · obtain ⟨L, rfl⟩ := Int.eq_ofNat_of_zero_le (show 0 ≤ a0 by unfold may at hm; simp at hm; omega)
    exact copies_ok w1.1 w1.2 w2.1 w2.2 hm
end Go.Proofs.Ytjdinppblejcdaa
