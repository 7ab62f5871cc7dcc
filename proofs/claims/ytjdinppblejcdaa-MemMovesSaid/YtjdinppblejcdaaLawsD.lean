/- The law on Move returns true for every slice of bytes and every call. -/
import Derived.Test.YtjdinppblejcdaaOpen
namespace Go.Proofs.Ytjdinppblejcdaa
open Go Go.RowKit

theorem mv_ok {len i j m : Nat} (h : m = 0 ∨ j + m ≤ len) (xs : List Nat) (hl : xs.length = len) : rde len j (m : Int) = 0 ∧ mve len i j m = er len i (rd xs j m).length := by
  constructor
  · unfold rde er
    rw [if_neg (by omega), Int.toNat_natCast, if_pos h]
  · unfold mve er
    rcases h with h | h
    · subst h
      rw [rd_zero]
      simp
    · rw [rd_len (by omega)]
      by_cases h0 : m = 0
      · simp [h0]
      · by_cases h2 : i + m ≤ len
        · rw [if_pos (by omega), if_pos (by omega)]
        · rw [if_neg (by omega), if_neg (by omega)]
theorem mv_no {len i j m : Nat} (h : ¬ (m = 0 ∨ j + m ≤ len)) (xs : List Nat) (hl : xs.length = len) : rde len j (m : Int) = 4 ∧ mve len i j m = 4 ∧ rd xs j m = [] := by
  refine ⟨?_, ?_, ?_⟩
  · unfold rde er
    rw [if_neg (by omega), Int.toNat_natCast, if_neg h]
  · unfold mve
    rw [if_neg (by omega)]
  · unfold rd
    rw [if_neg (by omega)]
set_option maxRecDepth 100000 in
theorem moves_long {A B : Option Addr} {n c m d : Nat} {q a b v k : Int} (w : World) (hn : 65536 < n) : Calls Try.prog 8 #[.slice A n c, .agg (opc q a b v k B m d)] w fun e w' => e = .returned (.bool true) ∧ Below w.heap.size w w' := by
  have h : (65536 : Int) < (n : Int) := by omega
  have G0 := Lib.hid (World.grownBy_alloc w (.cells (opc q a b v k B m d) 34) none)
  clear hn
  unfold opc at *
  go_enter Try.func8, Try.ntmps8
  go_wp2
  go_quiet (fail)
  go_wp2_with (go_at_call 13; (with_reducible refine (head_any _).mono ?_); rintro e w' ⟨rfl, g1⟩; have H1 := Lib.hid g1; clear g1)
  go_ret
  exact ⟨rfl, g_below0 (g_trans (g_drew G0.out nq) H1.out)⟩
set_option maxRecDepth 100000 in
theorem moves_no {A B : Option Addr} {n c m d : Nat} {q a b v k : Int} (w : World) (hn : n ≤ 65536) (hm : may n = false) : Calls Try.prog 8 #[.slice A n c, .agg (opc q a b v k B m d)] w fun e w' => e = .returned (.bool true) ∧ Below w.heap.size w w' := by
  have h : ¬ (65536 : Int) < (n : Int) := by omega
  have G0 := Lib.hid (World.grownBy_alloc w (.cells (opc q a b v k B m d) 34) none)
  have C := Lib.hid (From_no (A := A) (c := c) hm)
  clear hn hm
  unfold opc at *
  go_enter Try.func8, Try.ntmps8
  go_wp2
  go_quiet (fail)
  go_wp2_with (first
    | (go_at_call 18; (with_reducible refine (C.out _).mono ?_); rintro e w2 ⟨rfl, rfl⟩)
    | (go_at_call 13; (with_reducible refine (head_any _).mono ?_); rintro e w' ⟨rfl, g1⟩; have H1 := Lib.hid g1; clear g1))
  go_ret
  exact ⟨rfl, g_below0 (g_trans (g_drew G0.out nq) H1.out)⟩
set_option maxRecDepth 100000 in
set_option maxHeartbeats 8000000 in
theorem moves_in {A B : Option Addr} {c m d : Nat} {xs : List Nat} {q a b v k : Int} {w : World} (R : RS w A c xs) (hm : may xs.length = true) (ha : isW a) (hb : isW b) (ho : cnt v = 0 ∨ ix b + cnt v ≤ xs.length) :
    Calls Try.prog 8 #[.slice A xs.length c, .agg (opc q a b v k B m d)] w fun e w' => e = .returned (.bool true) ∧ Below w.heap.size w w' := by
  have hh : 1024 ≤ xs.length ∧ xs.length ≤ 65536 ∧ xs.length % 4 = 0 := by unfold may at hm; simp at hm; omega
  have h : ¬ (65536 : Int) < (xs.length : Int) := by omega
  have G0 := Lib.hid (World.grownBy_alloc w (.cells (opc q a b v k B m d) 34) none)
  have HR := Lib.hid R
  obtain ⟨e1, e2⟩ := mv_ok (i := ix a) ho xs rfl
  have C := Lib.hid (fun (w1 : World) (R1 : RS w1 A c xs) => From_ok hm R1)
  have D := fun (w1 : World) (p g : Nat) (M1 : MemAt w1 p g xs) => Move_any (v := v) M1 ha hb
  have F := fun (w1 : World) (p g : Nat) (M1 : MemAt w1 p g xs) => Read_any M1 hb (n := (cnt v : Int)) (by have := cnt_lt v; omega)
  have E := cnt_cast v
  have hc := cnt_lt v
  have HBy : BY (rd xs (ix b) (cnt v)) := rd_by R.by_
  rw [e2] at D
  rw [e1, Int.toNat_natCast] at F
  have T := Lib.hid (fun (w1 : World) (p g : Nat) (M1 : MemAt w1 p g xs) (A1 : Option Addr) (c1 : Nat) (R1 : RS w1 A1 c1 (rd xs (ix b) (cnt v))) => Write_any M1 ha R1)
  have D := Lib.hid D
  have F := Lib.hid F
  unfold Reads at F
  have HB := Lib.hid HBy
  have HN := Lib.hid (And.intro hh (wr_len xs (ix a) (rd xs (ix b) (cnt v))))
  have HY := Lib.hid (wr_by R.by_ HBy (i := ix a))
  have S := fun (w1 : World) (A1 A2 : Option Addr) (c1 c2 : Nat) (R1 : RS w1 A1 c1 (wr xs (ix a) (rd xs (ix b) (cnt v)))) (R2 : RS w1 A2 c2 (wr xs (ix a) (rd xs (ix b) (cnt v)))) => Same_any R1 R2
  have CB := fun (w1 : World) (p g : Nat) (M1 : MemAt w1 p g (wr xs (ix a) (rd xs (ix b) (cnt v)))) => Bytes_any M1
  rw [wr_len] at S CB
  have S := Lib.hid S
  have CB := Lib.hid CB
  clear R hm ha hb ho e1 e2 HBy hh
  generalize rd xs (ix b) (cnt v) = ys at *
  generalize er xs.length (ix a) ys.length = X at *
  generalize hK : ys.length = K at *
  have HK := Lib.hid hK
  generalize hzs : wr xs (ix a) ys = zs at *
  clear hzs hK
  generalize hL : xs.length = L at *
  have HL := Lib.hid hL
  generalize hcnt : cnt v = y at *
  clear hL hcnt
  unfold opc at *
  go_enter Try.func8, Try.ntmps8
  go_wp2
  go_quiet (fail)
  have G1 := Lib.hid (g_drew G0.out nq)
  generalize (w.alloc (.cells #[.int .u8 q, .int .i32 a, .int .i32 b, .int .i32 v, .int .i64 k, .slice B m d] 34)).drewN nq = W0 at *
  go_wp2_with (first
    | (go_at_call 18; (with_reducible refine (C.out _ (HR.out.kept0 G1.out)).mono ?_); rintro e w1 ⟨p1, rfl, g1, hp, hg, G, M⟩; have H1 := Lib.hid (And.intro (And.intro hp hg) (And.intro (g_trans G1.out G) M)); clear hp hg G M)
    | (go_at_call 18; (with_reducible refine (C.out _ (HR.out.kept0 H1.out.2.1)).mono ?_); rintro e w2 ⟨p2, rfl, g2, hp, hg, G, M⟩; have H2 := Lib.hid (And.intro (And.intro hp hg) (And.intro (g_trans H1.out.2.1 G) (And.intro (H1.out.2.2.kept0 G) M))); clear hp hg G M)
    | (go_at_call 30; (with_reducible refine (D.out _ _ _ H2.out.2.2.1).mono ?_); rintro e w3 ⟨rfl, G, M⟩; have H3 := Lib.hid (And.intro (g_new H2.out.2.1 G (Nat.le_trans G1.out.size H1.out.1.2)) (And.intro M (H2.out.2.2.2.kept G (by intro e; cases e; exact Nat.lt_irrefl _ (Nat.lt_of_lt_of_le H1.out.2.2.glt H2.out.1.1)) (by intro e; cases e; exact Nat.lt_irrefl _ (Nat.lt_of_lt_of_le H1.out.2.2.glt H2.out.1.2))))); clear G M)
    | (go_at_call 31; (with_reducible refine (F.out _ _ _ H3.out.2.2).mono ?_); rintro e w4 ⟨A1, c1, rfl, O, G⟩; have H4 := Lib.hid (And.intro (g_trans H3.out.1 G) (And.intro (And.intro (H3.out.2.1.kept0 G) (H3.out.2.2.kept0 G)) (OwnB.rs O HB.out).1)); clear O G)
    | (go_at_call 32; (with_reducible refine (T.out _ _ _ H4.out.2.1.2 _ _ H4.out.2.2).mono ?_); rintro e w5 ⟨rfl, G, M⟩; have H5 := Lib.hid (And.intro (g_new H4.out.1 G (Nat.le_trans H1.out.2.1.size H2.out.1.2)) (And.intro (H4.out.2.1.1.kept G (by intro e; cases e; exact Nat.lt_irrefl _ (Nat.lt_of_lt_of_le H1.out.2.2.plt H2.out.1.2)) (by intro e; cases e; exact Nat.lt_irrefl _ (Nat.lt_of_lt_of_le H1.out.2.2.glt H2.out.1.2))) M)); clear G M)
    | (go_at_call 16; (with_reducible refine (CB.out _ _ _ H5.out.2.1).mono ?_); rintro e w6 ⟨rfl, G, r⟩; have H6 := Lib.hid (And.intro (g_trans H5.out.1 G) (And.intro (H5.out.2.2.kept0 G) (rs_of_row r (by have := HN.out; unfold maxLen; omega) HY.out))); rw [HN.out.2] at H6; clear G r)
    | (go_at_call 16; (with_reducible refine (CB.out _ _ _ H6.out.2.1).mono ?_); rintro e w7 ⟨rfl, G, r⟩; have H7 := Lib.hid (And.intro (g_trans H6.out.1 G) (And.intro (H6.out.2.2.kept0 G) (rs_of_row r (by have := HN.out; unfold maxLen; omega) HY.out))); rw [HN.out.2] at H7; clear G r)
    | (go_at_call 15; (with_reducible refine (S.out _ _ _ _ _ H7.out.2.1 H7.out.2.2).mono ?_); rintro e w8 ⟨rfl, rfl⟩)
    | (go_at_call 13; (with_reducible refine (head_any _).mono ?_); rintro e w9 ⟨rfl, g9⟩; have H9 := Lib.hid g9; clear g9))
  go_ret
  exact ⟨rfl, g_below0 (g_trans H7.out.1 H9.out)⟩
set_option maxRecDepth 100000 in
set_option maxHeartbeats 8000000 in
theorem moves_out {A B : Option Addr} {c m d : Nat} {xs : List Nat} {q a b v k : Int} {w : World} (R : RS w A c xs) (hm : may xs.length = true) (ha : isW a) (hb : isW b) (ho : ¬ (cnt v = 0 ∨ ix b + cnt v ≤ xs.length)) :
    Calls Try.prog 8 #[.slice A xs.length c, .agg (opc q a b v k B m d)] w fun e w' => e = .returned (.bool true) ∧ Below w.heap.size w w' := by
  have hh : 1024 ≤ xs.length ∧ xs.length ≤ 65536 ∧ xs.length % 4 = 0 := by unfold may at hm; simp at hm; omega
  have h : ¬ (65536 : Int) < (xs.length : Int) := by omega
  have G0 := Lib.hid (World.grownBy_alloc w (.cells (opc q a b v k B m d) 34) none)
  have HR := Lib.hid R
  obtain ⟨e1, e2, e3⟩ := mv_no (i := ix a) ho xs rfl
  have C := Lib.hid (fun (w1 : World) (R1 : RS w1 A c xs) => From_ok hm R1)
  have D := fun (w1 : World) (p g : Nat) (M1 : MemAt w1 p g xs) => Move_any (v := v) M1 ha hb
  have F := fun (w1 : World) (p g : Nat) (M1 : MemAt w1 p g xs) => Read_any M1 hb (n := (cnt v : Int)) (by have := cnt_lt v; omega)
  have E := cnt_cast v
  have hc := cnt_lt v
  rw [e2, e3, wr_nil] at D
  rw [e1] at F
  have D := Lib.hid D
  have F := Lib.hid F
  unfold Reads at F
  have HN := Lib.hid hh
  have HY := Lib.hid R.by_
  have S := Lib.hid (fun (w1 : World) (A1 A2 : Option Addr) (c1 c2 : Nat) (R1 : RS w1 A1 c1 xs) (R2 : RS w1 A2 c2 xs) => Same_any R1 R2)
  have CB := Lib.hid (fun (w1 : World) (p g : Nat) (M1 : MemAt w1 p g xs) => Bytes_any M1)
  clear R hm ha hb ho e1 e2 e3 hh
  generalize hL : xs.length = L at *
  have HL := Lib.hid hL
  generalize rd xs (ix b) ((cnt v : Int)).toNat = ys at *
  generalize hcnt : cnt v = y at *
  clear hL hcnt
  unfold opc at *
  go_enter Try.func8, Try.ntmps8
  go_wp2
  go_quiet (fail)
  have G1 := Lib.hid (g_drew G0.out nq)
  generalize (w.alloc (.cells #[.int .u8 q, .int .i32 a, .int .i32 b, .int .i32 v, .int .i64 k, .slice B m d] 34)).drewN nq = W0 at *
  go_wp2_with (first
    | (go_at_call 18; (with_reducible refine (C.out _ (HR.out.kept0 G1.out)).mono ?_); rintro e w1 ⟨p1, rfl, g1, hp, hg, G, M⟩; have H1 := Lib.hid (And.intro (And.intro hp hg) (And.intro (g_trans G1.out G) M)); clear hp hg G M)
    | (go_at_call 18; (with_reducible refine (C.out _ (HR.out.kept0 H1.out.2.1)).mono ?_); rintro e w2 ⟨p2, rfl, g2, hp, hg, G, M⟩; have H2 := Lib.hid (And.intro (And.intro hp hg) (And.intro (g_trans H1.out.2.1 G) (And.intro (H1.out.2.2.kept0 G) M))); clear hp hg G M)
    | (go_at_call 30; (with_reducible refine (D.out _ _ _ H2.out.2.2.1).mono ?_); rintro e w3 ⟨rfl, G, M⟩; have H3 := Lib.hid (And.intro (g_new H2.out.2.1 G (Nat.le_trans G1.out.size H1.out.1.2)) (And.intro M (H2.out.2.2.2.kept G (by intro e; cases e; exact Nat.lt_irrefl _ (Nat.lt_of_lt_of_le H1.out.2.2.glt H2.out.1.1)) (by intro e; cases e; exact Nat.lt_irrefl _ (Nat.lt_of_lt_of_le H1.out.2.2.glt H2.out.1.2))))); clear G M)
    | (go_at_call 31; (with_reducible refine (F.out _ _ _ H3.out.2.2).mono ?_); rintro e w4 ⟨A1, c1, rfl, O, G⟩; have H5 := Lib.hid (And.intro (g_trans H3.out.1 G) (And.intro (H3.out.2.1.kept0 G) (H3.out.2.2.kept0 G))); clear O G)
    | (go_at_call 16; (with_reducible refine (CB.out _ _ _ H5.out.2.1).mono ?_); rintro e w6 ⟨rfl, G, r⟩; have H6 := Lib.hid (And.intro (g_trans H5.out.1 G) (And.intro (H5.out.2.2.kept0 G) (rs_of_row r (by have := HN.out; have := HL.out; unfold maxLen; omega) HY.out))); rw [HL.out] at H6; clear G r)
    | (go_at_call 16; (with_reducible refine (CB.out _ _ _ H6.out.2.1).mono ?_); rintro e w7 ⟨rfl, G, r⟩; have H7 := Lib.hid (And.intro (g_trans H6.out.1 G) (And.intro (H6.out.2.2.kept0 G) (rs_of_row r (by have := HN.out; have := HL.out; unfold maxLen; omega) HY.out))); rw [HL.out] at H7; clear G r)
    | (go_at_call 15; (with_reducible refine (S.out _ _ _ _ _ H7.out.2.1 H7.out.2.2).mono ?_); rintro e w8 ⟨rfl, rfl⟩)
    | (go_at_call 13; (with_reducible refine (head_any _).mono ?_); rintro e w9 ⟨rfl, g9⟩; have H9 := Lib.hid g9; clear g9))
  go_ret
  exact ⟨rfl, g_below0 (g_trans H7.out.1 H9.out)⟩
theorem walkMemMoves (a0 : Option Addr) (len0 cap0 : Nat) (z0 : List Int) (cs : List Value) (w : World) (w0 : Came w a0 len0 cap0 z0) (w1 : IsOp w cs) :
    Calls Try.prog 8 #[.slice a0 len0 cap0, .agg cs.toArray] w fun e w' => e = .returned (.bool true) ∧ Below w.heap.size w w' := by
  obtain ⟨xs, rfl, R, _⟩ := w0.rs
  obtain ⟨q, a, b, v, n, B, d, ys, rfl, _, ha, hb, _⟩ := w1
  rw [Array.toArray_toList]
  by_cases h : 65536 < xs.length
  · exact moves_long w h
  · rcases hm : may xs.length with _ | _
    · exact moves_no w (by omega) hm
    · by_cases ho : cnt v = 0 ∨ ix b + cnt v ≤ xs.length
      · exact moves_in R hm ha hb ho
      · exact moves_out R hm ha hb ho
end Go.Proofs.Ytjdinppblejcdaa
