/- The program: the value of an expression with an operator. -/
import Derived.Test.YtimbiobonigdmaaGreatDoorM12
import Derived.Test.YtimbiobonigdmaaGreatDoorM06
import Derived.Test.YtimbiobonigdmaaGreatDoorM11
set_option linter.unusedVariables false
set_option linter.unusedSimpArgs false
set_option linter.unusedVariables false
set_option linter.unusedSimpArgs false
namespace Go.Proofs.YtimbiobonigdmaaGreatDoor
open Go Go.RowKit L8 L10 L14

/-- The tree's box and the operands. -/
structure OpS (w X : World) (cs : Array Value) (p q : Int) : Prop where
  bel : Below w.heap.size w X
  box : BoxS X w.heap.size 27 cs
  arr : BoxS X (w.heap.size + 1) 105 #[.int .i32 p, .int .i32 q]
theorem OpS.step {w X Y : World} {cs : Array Value} {p q : Int} (h : OpS w X cs p q) (b : Below X.heap.size X Y) : OpS w Y cs p q := ⟨blw h.bel b, h.box.below b, h.arr.below b⟩
theorem OpS.new (w : World) (cs : Array Value) : OpS w ((w.alloc (.cells cs 27)).alloc (.cells #[.int .i32 0, .int .i32 0] 105)) cs 0 0 := by
  refine ⟨bal (bal (b0 w) _) _, (boxS_new w _ _).alloc _, ?_⟩
  have := boxS_new (w.alloc (.cells cs 27)) 105 #[.int .i32 0, .int .i32 0]
  rwa [World.size_alloc] at this
theorem OpS.set0 {w X : World} {cs : Array Value} {p q : Int} (h : OpS w X cs p q) (u : Int) : OpS w (X.setCell ⟨w.heap.size + 1, 0, none⟩ (.int .i32 u)) cs u q := by
  refine ⟨bset h.bel (by omega) _, boxS_other h.box (by omega) _, ?_⟩
  have := boxset h.arr 0 (.int .i32 u)
  simpa using this
theorem OpS.set1 {w X : World} {cs : Array Value} {p q : Int} (h : OpS w X cs p q) (u : Int) : OpS w (X.setCell ⟨w.heap.size + 1, 1, none⟩ (.int .i32 u)) cs p u := by
  refine ⟨bset h.bel (by omega) _, boxS_other h.box (by omega) _, ?_⟩
  have := boxset h.arr 1 (.int .i32 u)
  simpa using this
theorem OpS.cells {w X : World} {cs : Array Value} {p q : Int} (h : OpS w X cs p q) : X.cell? ⟨w.heap.size + 1, 0, none⟩ = some (.int .i32 p) ∧ X.cell? ⟨w.heap.size + 1, 1, none⟩ = some (.int .i32 q) ∧ X.frozen? ⟨w.heap.size + 1, 0, none⟩ = false ∧ X.frozen? ⟨w.heap.size + 1, 1, none⟩ = false :=
  ⟨(h.arr.cell 0).trans rfl, (h.arr.cell 1).trans rfl, h.arr.frozen 0, h.arr.frozen 1⟩
/-- A part, readable, and its contract, in every later world. -/
theorem part_at {b : Nat} {m : Mg} {e : Ex} {A : Option Addr} {c j : Nat} {w : World} (R : TrR w A c e.l) (hj : j < e.l.length) (M : MgR w b m) (C : VlC b m (e.l.getD j e0)) : ∃ ad, A = some ad ∧ ∃ B d, (∀ v, vOf m (e.l.getD j e0) = some v → inW v) ∧ ∀ X, Below w.heap.size w X →
    (Calls Tryz.prog 22 #[.map (some b), exV (e.l.getD j e0) B (e.l.getD j e0).l.length d] X (VlR X (vOf m (e.l.getD j e0)))) ∧
    X.cell? (ad.add (j * 6)) = some (.int .u8 ((e.l.getD j e0).k : Int)) ∧ X.cell? ⟨(ad.add (j * 6)).block, (ad.add (j * 6)).off + 1, none⟩ = some (.int .u8 ((e.l.getD j e0).o : Int)) ∧ X.cell? ⟨(ad.add (j * 6)).block, (ad.add (j * 6)).off + 2, none⟩ = some (.int .u8 ((e.l.getD j e0).t : Int)) ∧ X.cell? ⟨(ad.add (j * 6)).block, (ad.add (j * 6)).off + 3, none⟩ = some (.int .i32 (e.l.getD j e0).n)
      ∧ X.cell? ⟨(ad.add (j * 6)).block, (ad.add (j * 6)).off + 4, none⟩ = some (.string (strOf (e.l.getD j e0).s)) ∧ X.cell? ⟨(ad.add (j * 6)).block, (ad.add (j * 6)).off + 5, none⟩ = some (.slice B (e.l.getD j e0).l.length d) := by
  obtain ⟨ad, e1, B, k, d, hk, oky, Ry, y0, y1, y2, y3, y4, y5⟩ := R.at hj
  subst hk
  refine ⟨ad, e1, B, d, val_in M.inM _ oky Ry, fun X bX => ⟨C B _ d X (Ry.keep bX) rfl (M.keep bX), ?_⟩⟩
  exact ⟨(bX.cell (g_lt y0)).trans y0, (bX.cell (g_lt y1)).trans y1, (bX.cell (g_lt y2)).trans y2, (bX.cell (g_lt y3)).trans y3, (bX.cell (g_lt y4)).trans y4, (bX.cell (g_lt y5)).trans y5⟩
set_option maxRecDepth 100000 in
set_option maxHeartbeats 8000000 in
theorem operated_one {b : Nat} {m : Mg} (e : Ex) (A : Option Addr) (c : Nat) (w : World) (R : TrR w A c e.l) (hn : e.l.length = 1) (M : MgR w b m) (C : VlC b m (e.l.getD 0 e0)) :
    Calls Tryz.prog 35 #[.map (some b), exV e A 1 c] w (VlR w ((vOf m (e.l.getD 0 e0)).bind fun u => apO e.o u 0)) := by
  obtain ⟨ad, rfl, B, d, hin, HP⟩ := part_at R (j := 0) (by omega) M C
  rw [Nat.zero_mul] at HP
  rw [show ad.add 0 = ad from rfl] at HP
  have HP := Lib.hid HP
  have HN := Lib.hid (OpS.new w (exC e (some ad) 1 c))
  clear R M C hn
  obtain ⟨Z, hZ⟩ : ∃ Z, (vOf m (e.l.getD 0 e0)).bind (fun u => apO e.o u 0) = Z := ⟨_, rfl⟩
  rw [hZ]
  have hA : ∀ u, inW u → ∀ X, Calls Tryz.prog 12 #[.int .u8 (e.o : Int), .int .i32 u, .int .i32 0] X (ApR X (apO e.o u 0)) := fun u hu X => Apply_any e.o u 0 hu ⟨by decide, by decide⟩ X
  generalize hr : vOf m (e.l.getD 0 e0) = r at *
  generalize e.l.getD 0 e0 = y at *
  generalize hl : y.l.length = k at *
  clear hr hl
  dsimp only [exV, exC] at *
  generalize strOf e.s = S at *
  generalize strOf y.s = SY at *
  unfold VlR apR at HP
  unfold ApR apR at hA
  dsimp only [Option.getD, Option.isSome] at hA
  cases r with
  | none =>
    have HZ := Lib.hid (show Z = none from hZ.symm)
    clear hZ hin hA
    go_enter Tryz.func35, Tryz.ntmps35
    go_wp2
    generalize (w.alloc (.cells #[.int .u8 (e.k : Int), .int .u8 (e.o : Int), .int .u8 (e.t : Int), .int .i32 e.n, .string S, .slice (some ad) 1 c] 27)).alloc (.cells #[.int .i32 0, .int .i32 0] 105) = V at *
    have CV := Lib.hid (HP.out _ (bal HN.out.bel (.cells #[.int .u8 (y.k : Int), .int .u8 (y.o : Int), .int .u8 (y.t : Int), .int .i32 y.n, .string SY, .slice B k d] 27))).1
    obtain ⟨-, y0, y1, y2, y3, y4, y5⟩ := HP.out V HN.out.bel
    refine wp_loop_rounds 2 ?_
    rw [rounds_succ]
    go_wp2_with (go_at_call 22; (with_reducible refine (CV.out).mono ?_); rintro e1 w2 ⟨rfl, b⟩; have H2 := Lib.hid ((HN.out.step (bal (b0 V) (.cells #[.int .u8 (y.k : Int), .int .u8 (y.o : Int), .int .u8 (y.t : Int), .int .i32 y.n, .string SY, .slice B k d] 27))).step b); obtain ⟨a0, a1, f0, f1⟩ := H2.out.cells; clear b)
    go_ret2
    exact ⟨by rw [HZ.out]; rfl, (H2.out.set0 0).bel⟩
  | some u =>
    have hu := hin u rfl
    have HA := Lib.hid (hA u hu)
    have HZ := Lib.hid (show apO e.o u 0 = Z from hZ)
    rw [HZ.out] at HA
    clear hZ hin hA
    go_enter Tryz.func35, Tryz.ntmps35
    go_wp2
    generalize (w.alloc (.cells #[.int .u8 (e.k : Int), .int .u8 (e.o : Int), .int .u8 (e.t : Int), .int .i32 e.n, .string S, .slice (some ad) 1 c] 27)).alloc (.cells #[.int .i32 0, .int .i32 0] 105) = V at *
    have CV := Lib.hid (HP.out _ (bal HN.out.bel (.cells #[.int .u8 (y.k : Int), .int .u8 (y.o : Int), .int .u8 (y.t : Int), .int .i32 y.n, .string SY, .slice B k d] 27))).1
    obtain ⟨-, y0, y1, y2, y3, y4, y5⟩ := HP.out V HN.out.bel
    refine wp_loop_rounds 2 ?_
    rw [rounds_succ]
    go_wp2_with (go_at_call 22; (with_reducible refine (CV.out).mono ?_); rintro e1 w2 ⟨rfl, b⟩; have H2 := Lib.hid ((HN.out.step (bal (b0 V) (.cells #[.int .u8 (y.k : Int), .int .u8 (y.o : Int), .int .u8 (y.t : Int), .int .i32 y.n, .string SY, .slice B k d] 27))).step b); obtain ⟨a0, a1, f0, f1⟩ := H2.out.cells; have p1 := (H2.out.box.cell 1).trans rfl; clear b)
    rw [rounds_succ]
    go_wp2_with (go_at_call 12; (with_reducible refine (HA.out _).mono ?_); rintro e1 w3 ⟨rfl, b⟩; have H3 := Lib.hid ((H2.out.set0 u).step b); clear b)
    all_goals (go_ret2; exact ⟨rfl, H3.out.bel⟩)
set_option maxRecDepth 100000 in
set_option maxHeartbeats 8000000 in
theorem operated_two {b : Nat} {m : Mg} (e : Ex) (A : Option Addr) (c : Nat) (w : World) (R : TrR w A c e.l) (hn : e.l.length = 2) (M : MgR w b m) (C : VlC b m (e.l.getD 0 e0)) (C' : VlC b m (e.l.getD 1 e0)) :
    Calls Tryz.prog 35 #[.map (some b), exV e A 2 c] w (VlR w ((vOf m (e.l.getD 0 e0)).bind fun u => (vOf m (e.l.getD 1 e0)).bind fun v => apO e.o u v)) := by
  obtain ⟨ad, rfl, B, d, hin, HP⟩ := part_at R (j := 0) (by omega) M C
  obtain ⟨ad', e1, D, f, hin', HQ⟩ := part_at R (j := 1) (by omega) M C'
  injection e1 with e1
  subst e1
  rw [Nat.zero_mul] at HP
  rw [show ad.add 0 = ad from rfl] at HP
  rw [Nat.one_mul, show ad.add 6 = ⟨ad.block, ad.off + 6, none⟩ from add_succ_ ad 5] at HQ
  simp only [Nat.add_assoc, Nat.reduceAdd] at HQ
  have hmx : c ≤ maxLen := R.mx
  have HP := Lib.hid HP
  have HQ := Lib.hid HQ
  have HN := Lib.hid (OpS.new w (exC e (some ad) 2 c))
  clear R M C C' hn
  obtain ⟨Z, hZ⟩ : ∃ Z, ((vOf m (e.l.getD 0 e0)).bind fun u => (vOf m (e.l.getD 1 e0)).bind fun v => apO e.o u v) = Z := ⟨_, rfl⟩
  rw [hZ]
  have hA : ∀ u v, inW u → inW v → ∀ X, Calls Tryz.prog 12 #[.int .u8 (e.o : Int), .int .i32 u, .int .i32 v] X (ApR X (apO e.o u v)) := fun u v hu hv X => Apply_any e.o u v hu hv X
  generalize hr : vOf m (e.l.getD 0 e0) = r at *
  generalize hr' : vOf m (e.l.getD 1 e0) = r' at *
  generalize e.l.getD 0 e0 = y at *
  generalize e.l.getD 1 e0 = z at *
  generalize hl : y.l.length = k at *
  generalize hl' : z.l.length = l at *
  clear hr hl hr' hl'
  dsimp only [exV, exC] at *
  generalize strOf e.s = S at *
  generalize strOf y.s = SY at *
  generalize strOf z.s = SZ at *
  unfold VlR apR at HP HQ
  unfold ApR apR at hA
  dsimp only [Option.getD, Option.isSome] at hA
  cases r with
  | none =>
    have HZ := Lib.hid (show Z = none from hZ.symm)
    clear hZ hin hA hin'
    go_enter Tryz.func35, Tryz.ntmps35
    go_wp2
    generalize (w.alloc (.cells #[.int .u8 (e.k : Int), .int .u8 (e.o : Int), .int .u8 (e.t : Int), .int .i32 e.n, .string S, .slice (some ad) 2 c] 27)).alloc (.cells #[.int .i32 0, .int .i32 0] 105) = V at *
    have CV := Lib.hid (HP.out _ (bal HN.out.bel (.cells #[.int .u8 (y.k : Int), .int .u8 (y.o : Int), .int .u8 (y.t : Int), .int .i32 y.n, .string SY, .slice B k d] 27))).1
    obtain ⟨-, y0, y1, y2, y3, y4, y5⟩ := HP.out V HN.out.bel
    refine wp_loop_rounds 3 ?_
    rw [rounds_succ]
    go_wp2_with (go_at_call 22; (with_reducible refine (CV.out).mono ?_); rintro e1 w2 ⟨rfl, b⟩; have H2 := Lib.hid ((HN.out.step (bal (b0 V) (.cells #[.int .u8 (y.k : Int), .int .u8 (y.o : Int), .int .u8 (y.t : Int), .int .i32 y.n, .string SY, .slice B k d] 27))).step b); obtain ⟨a0, a1, f0, f1⟩ := H2.out.cells; clear b)
    go_ret2
    exact ⟨by rw [HZ.out]; rfl, (H2.out.set0 0).bel⟩
  | some u =>
    have hu := hin u rfl
    cases r' with
    | none =>
      have HZ := Lib.hid (show Z = none from hZ.symm)
      clear hZ hin hA hin' hu
      go_enter Tryz.func35, Tryz.ntmps35
      go_wp2
      generalize (w.alloc (.cells #[.int .u8 (e.k : Int), .int .u8 (e.o : Int), .int .u8 (e.t : Int), .int .i32 e.n, .string S, .slice (some ad) 2 c] 27)).alloc (.cells #[.int .i32 0, .int .i32 0] 105) = V at *
      have CV := Lib.hid (HP.out _ (bal HN.out.bel (.cells #[.int .u8 (y.k : Int), .int .u8 (y.o : Int), .int .u8 (y.t : Int), .int .i32 y.n, .string SY, .slice B k d] 27))).1
      obtain ⟨-, y0, y1, y2, y3, y4, y5⟩ := HP.out V HN.out.bel
      refine wp_loop_rounds 3 ?_
      rw [rounds_succ]
      go_wp2_with (go_at_call 22; (with_reducible refine (CV.out).mono ?_); rintro e1 w2 ⟨rfl, b⟩; have H2 := Lib.hid ((HN.out.step (bal (b0 V) (.cells #[.int .u8 (y.k : Int), .int .u8 (y.o : Int), .int .u8 (y.t : Int), .int .i32 y.n, .string SY, .slice B k d] 27))).step b); obtain ⟨a0, a1, f0, f1⟩ := H2.out.cells; clear b)
      have CW := Lib.hid (HQ.out _ (bal (H2.out.set0 u).bel (.cells #[.int .u8 (z.k : Int), .int .u8 (z.o : Int), .int .u8 (z.t : Int), .int .i32 z.n, .string SZ, .slice D l f] 27))).1
      obtain ⟨-, z0, z1, z2, z3, z4, z5⟩ := HQ.out _ (H2.out.set0 u).bel
      rw [rounds_succ]
      go_wp2_with (go_at_call 22; (with_reducible refine (CW.out).mono ?_); rintro e1 w3 ⟨rfl, b⟩; have H3 := Lib.hid (((H2.out.set0 u).step (bal (b0 _) (.cells #[.int .u8 (z.k : Int), .int .u8 (z.o : Int), .int .u8 (z.t : Int), .int .i32 z.n, .string SZ, .slice D l f] 27))).step b); obtain ⟨g0, g1, h0, h1⟩ := H3.out.cells; have p1 := (H3.out.box.cell 1).trans rfl; clear b)
      go_ret2
      exact ⟨by rw [HZ.out]; rfl, (H3.out.set1 0).bel⟩
    | some v =>
      have HA := Lib.hid (hA u v hu (hin' v rfl))
      have HZ := Lib.hid (show apO e.o u v = Z from hZ)
      rw [HZ.out] at HA
      clear hZ hin hA hin' hu
      go_enter Tryz.func35, Tryz.ntmps35
      go_wp2
      generalize (w.alloc (.cells #[.int .u8 (e.k : Int), .int .u8 (e.o : Int), .int .u8 (e.t : Int), .int .i32 e.n, .string S, .slice (some ad) 2 c] 27)).alloc (.cells #[.int .i32 0, .int .i32 0] 105) = V at *
      have CV := Lib.hid (HP.out _ (bal HN.out.bel (.cells #[.int .u8 (y.k : Int), .int .u8 (y.o : Int), .int .u8 (y.t : Int), .int .i32 y.n, .string SY, .slice B k d] 27))).1
      obtain ⟨-, y0, y1, y2, y3, y4, y5⟩ := HP.out V HN.out.bel
      refine wp_loop_rounds 3 ?_
      rw [rounds_succ]
      go_wp2_with (go_at_call 22; (with_reducible refine (CV.out).mono ?_); rintro e1 w2 ⟨rfl, b⟩; have H2 := Lib.hid ((HN.out.step (bal (b0 V) (.cells #[.int .u8 (y.k : Int), .int .u8 (y.o : Int), .int .u8 (y.t : Int), .int .i32 y.n, .string SY, .slice B k d] 27))).step b); obtain ⟨a0, a1, f0, f1⟩ := H2.out.cells; clear b)
      have CW := Lib.hid (HQ.out _ (bal (H2.out.set0 u).bel (.cells #[.int .u8 (z.k : Int), .int .u8 (z.o : Int), .int .u8 (z.t : Int), .int .i32 z.n, .string SZ, .slice D l f] 27))).1
      obtain ⟨-, z0, z1, z2, z3, z4, z5⟩ := HQ.out _ (H2.out.set0 u).bel
      rw [rounds_succ]
      go_wp2_with (go_at_call 22; (with_reducible refine (CW.out).mono ?_); rintro e1 w3 ⟨rfl, b⟩; have H3 := Lib.hid (((H2.out.set0 u).step (bal (b0 _) (.cells #[.int .u8 (z.k : Int), .int .u8 (z.o : Int), .int .u8 (z.t : Int), .int .i32 z.n, .string SZ, .slice D l f] 27))).step b); obtain ⟨g0, g1, h0, h1⟩ := H3.out.cells; have p1 := (H3.out.box.cell 1).trans rfl; clear b)
      rw [rounds_succ]
      go_wp2_with (go_at_call 12; (with_reducible refine (HA.out _).mono ?_); rintro e1 w4 ⟨rfl, b⟩; have H4 := Lib.hid ((H3.out.set1 v).step b); clear b)
      all_goals (go_ret2; exact ⟨rfl, H4.out.bel⟩)
end Go.Proofs.YtimbiobonigdmaaGreatDoor
/- The program: the value of an expression, whole. -/
set_option linter.unusedVariables false
set_option linter.unusedSimpArgs false
namespace Go.Proofs.YtimbiobonigdmaaGreatDoor
open Go Go.RowKit L8 L10 L14

theorem mg_f0 (p : Option Addr) (v : Int) (z : Bool) (W : World) : (Instr.field 83 (.agg #[.pointer p, .int .i32 v, .bool z]) 0).run Tryz.prog W = .ok (.pointer p) W := by kernel_rfl
theorem mg_f1 (p : Option Addr) (v : Int) (z : Bool) (W : World) : (Instr.field 83 (.agg #[.pointer p, .int .i32 v, .bool z]) 1).run Tryz.prog W = .ok (.int .i32 v) W := by kernel_rfl
theorem mg_f2 (p : Option Addr) (v : Int) (z : Bool) (W : World) : (Instr.field 83 (.agg #[.pointer p, .int .i32 v, .bool z]) 2).run Tryz.prog W = .ok (.bool z) W := by kernel_rfl
theorem k_eq (k j : Nat) : ((k : Int) == (j : Int)) = decide (k = j) := nat_eq10 k j
set_option maxRecDepth 100000 in
theorem value_lit {b : Nat} {m : Mg} (e : Ex) (A : Option Addr) (n c : Nat) (w : World) (hk : e.k = 1 ∨ e.k = 2 ∨ e.k = 3) : Calls Tryz.prog 22 #[.map (some b), exV e A n c] w (VlR w (some e.n)) := by
  have HB := Lib.hid (bal (b0 w) (.cells (exC e A n c) 27))
  have q1 : ((e.k : Int) == 1) = decide (e.k = 1) := k_eq e.k 1
  have q2 : ((e.k : Int) == 2) = decide (e.k = 2) := k_eq e.k 2
  have q3 : ((e.k : Int) == 3) = decide (e.k = 3) := k_eq e.k 3
  dsimp only [exV, exC] at *
  generalize strOf e.s = S at *
  by_cases h1 : e.k = 1
  · rw [decide_eq_true h1] at q1
    rw [decide_eq_false (by omega)] at q2 q3
    clear h1 hk
    go_enter Tryz.func22, Tryz.ntmps22
    go_wp2
    go_ret2
    exact ⟨rfl, HB.out⟩
  · rw [decide_eq_false h1] at q1
    by_cases h2 : e.k = 2
    · rw [decide_eq_true h2] at q2
      rw [decide_eq_false (by omega)] at q3
      clear h1 h2 hk
      go_enter Tryz.func22, Tryz.ntmps22
      go_wp2
      go_ret2
      exact ⟨rfl, HB.out⟩
    · rw [decide_eq_false h2] at q2
      rw [decide_eq_true (by omega)] at q3
      clear h1 h2 hk
      go_enter Tryz.func22, Tryz.ntmps22
      go_wp2
      go_ret2
      exact ⟨rfl, HB.out⟩
/-- The kinds that are not this one. -/
structure Kd (k : Nat) (p4 p5 p6 p7 p8 p9 : Bool) : Prop where
  k1 : ((k : Int) == 1) = false
  k2 : ((k : Int) == 2) = false
  k3 : ((k : Int) == 3) = false
  k4 : ((k : Int) == 4) = p4
  k5 : ((k : Int) == 5) = p5
  k6 : ((k : Int) == 6) = p6
  k7 : ((k : Int) == 7) = p7
  k8 : ((k : Int) == 8) = p8
  k9 : ((k : Int) == 9) = p9
theorem kd_of (k : Nat) (h : 4 ≤ k) : Kd k (decide (k = 4)) (decide (k = 5)) (decide (k = 6)) (decide (k = 7)) (decide (k = 8)) (decide (k = 9)) :=
  ⟨(k_eq k 1).trans (decide_eq_false (by omega)), (k_eq k 2).trans (decide_eq_false (by omega)), (k_eq k 3).trans (decide_eq_false (by omega)), k_eq k 4, k_eq k 5, k_eq k 6, k_eq k 7, k_eq k 8, k_eq k 9⟩
set_option maxRecDepth 100000 in
theorem value_name {b : Nat} {m : Mg} (e : Ex) (A : Option Addr) (n c : Nat) (w : World) (hk : e.k = 4) (M : MgR w b m) : Calls Tryz.prog 22 #[.map (some b), exV e A n c] w (VlR w (rho m e.s)) := by
  have hb : Below w.heap.size w (w.alloc (.cells (exC e A n c) 27)) := bal (b0 w) _
  obtain ⟨p, v, hv, -, hr, -⟩ := (M.keep hb).look e.s
  rw [hv]
  have HB := Lib.hid hb
  clear M hb hv
  obtain ⟨k1, k2, k3, k4, k5, k6, k7, k8, k9⟩ := kd_of e.k (by omega)
  rw [decide_eq_true hk] at k4
  clear hk k5 k6 k7 k8 k9
  have hr0 := hr 0
  have e1 := mg_f1
  have e2 := mg_f2
  unfold lkV at hr hr0
  dsimp only [exV, exC] at *
  generalize strOf e.s = S at *
  unfold VlR apR
  generalize v.getD 0 = v1 at *
  generalize v.isSome = v2 at *
  go_enter Tryz.func22, Tryz.ntmps22
  go_wp2
  go_quiet (fail)
  go_wp2
  go_ret2
  exact ⟨rfl, bdrew HB.out _⟩
theorem sig_of {m : Mg} {s : Bs} {p : Option Addr} {v : Option Int} {w : World} (h : (p = none ∧ m s = none) ∨ ∃ a x, p = some a ∧ m s = some (x, v) ∧ SpW w a x) (X : World) (b : Below w.heap.size w X) : Calls Tryz.prog 34 #[lkV p v] X (VlR X (sig m s)) ∨ (p = none ∧ sig m s = none ∧ ∀ u, v = u → True) := by
  rcases h with ⟨rfl, h⟩ | ⟨a, x, rfl, h, hx⟩
  · right
    refine ⟨rfl, ?_, fun _ _ => trivial⟩
    unfold sig; rw [h]; rfl
  · left
    unfold sig; rw [h]
    exact size_some v (hx.keep b)
set_option maxRecDepth 100000 in
theorem value_size {b : Nat} {m : Mg} (e : Ex) (A : Option Addr) (n c : Nat) (w : World) (hk : e.k = 9) (M : MgR w b m) : Calls Tryz.prog 22 #[.map (some b), exV e A n c] w (VlR w (sig m e.s)) := by
  have hb : Below w.heap.size w (w.alloc (.cells (exC e A n c) 27)) := bal (b0 w) _
  obtain ⟨l, ML, hML⟩ := M.keep hb
  have hrun : (Instr.lookup 59 (.map (some b)) (.string (strOf e.s)) false).run Tryz.prog (w.alloc (.cells (exC e A n c) 27)) = .ok ((getL l e.s).getD (lkV none none)) (w.alloc (.cells (exC e A n c) 27)) := run_look Tryz.underlying59 Tryz.underlying9 (zero_mg _) ML e.s
  have hC : ∃ p v, (getL l e.s).getD (lkV none none) = lkV p v ∧ ∀ X, Below (w.alloc (.cells (exC e A n c) 27)).heap.size (w.alloc (.cells (exC e A n c) 27)) X → Calls Tryz.prog 34 #[lkV p v] X (VlR X (sig m e.s)) := by
    rcases hML e.s with ⟨e1, e2⟩ | ⟨x, v, p, e1, e2, e3, _⟩
    · refine ⟨none, none, by rw [e2]; rfl, fun X _ => ?_⟩
      have : sig m e.s = none := by unfold sig; rw [e1]; rfl
      rw [this]
      exact size_none X
    · refine ⟨some p, v, by rw [e2]; rfl, fun X bX => ?_⟩
      have : sig m e.s = szS x := by unfold sig; rw [e1]; rfl
      rw [this]
      exact size_some v (e3.keep bX)
  obtain ⟨p, v, hpv, hC⟩ := hC
  rw [hpv] at hrun
  have HB := Lib.hid hb
  have CS := Lib.hid (hC _ (b0 _))
  clear M hb hML ML hC hpv
  obtain ⟨k1, k2, k3, k4, k5, k6, k7, k8, k9⟩ := kd_of e.k (by omega)
  rw [decide_eq_true hk] at k9
  rw [decide_eq_false (by omega)] at k4
  clear hk k5 k6 k7 k8
  unfold lkV at hrun CS
  dsimp only [exV, exC] at *
  generalize strOf e.s = S at *
  generalize sig m e.s = Z at *
  unfold VlR apR at CS
  unfold VlR apR
  generalize Z.getD 0 = z1 at *
  generalize Z.isSome = z2 at *
  generalize v.getD 0 = v1 at *
  generalize v.isSome = v2 at *
  go_enter Tryz.func22, Tryz.ntmps22
  go_wp2_with (go_at_call 34; (with_reducible refine (CS.out).mono ?_); rintro e1 w2 ⟨rfl, b⟩; have H2 := Lib.hid (blw HB.out b); clear b)
  go_ret2
  exact ⟨rfl, H2.out⟩
set_option maxRecDepth 100000 in
theorem value_none {b : Nat} {m : Mg} (e : Ex) (A : Option Addr) (n c : Nat) (w : World) (hk : e.k = 5) : Calls Tryz.prog 22 #[.map (some b), exV e A n c] w (VlR w none) := by
  have HB := Lib.hid (bal (b0 w) (.cells (exC e A n c) 27))
  obtain ⟨k1, k2, k3, k4, k5, k6, k7, k8, k9⟩ := kd_of e.k (by omega)
  rw [decide_eq_false (by omega)] at k4 k6 k7 k8 k9
  clear hk k5
  dsimp only [exV, exC] at *
  generalize strOf e.s = S at *
  go_enter Tryz.func22, Tryz.ntmps22
  go_wp2
  go_ret2
  exact ⟨rfl, HB.out⟩
set_option maxRecDepth 100000 in
theorem value_op {b : Nat} {m : Mg} (e : Ex) (A : Option Addr) (n c : Nat) (w : World) (hk : e.k = 6 ∨ e.k = 7) (Z : Option Int) (C : ∀ X, Below w.heap.size w X → Calls Tryz.prog 35 #[.map (some b), exV e A n c] X (VlR X Z)) : Calls Tryz.prog 22 #[.map (some b), exV e A n c] w (VlR w Z) := by
  have hb : Below w.heap.size w (w.alloc (.cells (exC e A n c) 27)) := bal (b0 w) _
  have CO := Lib.hid (C _ hb)
  have HB := Lib.hid hb
  obtain ⟨k1, k2, k3, k4, k5, k6, k7, k8, k9⟩ := kd_of e.k (by omega)
  rw [decide_eq_false (by omega)] at k4 k8 k9
  clear k5 C hb
  unfold VlR apR at CO
  unfold VlR apR
  generalize Z.getD 0 = z1 at *
  generalize Z.isSome = z2 at *
  dsimp only [exV, exC] at *
  generalize strOf e.s = S at *
  by_cases h6 : e.k = 6
  · rw [decide_eq_true h6] at k6
    rw [decide_eq_false (by omega)] at k7
    clear hk h6
    go_enter Tryz.func22, Tryz.ntmps22
    go_wp2_with (go_at_call 35; (with_reducible refine (CO.out).mono ?_); rintro e1 w2 ⟨rfl, b⟩; have H2 := Lib.hid (blw HB.out b); clear b)
    go_ret2
    exact ⟨rfl, H2.out⟩
  · rw [decide_eq_false h6] at k6
    rw [decide_eq_true (by omega)] at k7
    clear hk h6
    go_enter Tryz.func22, Tryz.ntmps22
    go_wp2_with (go_at_call 35; (with_reducible refine (CO.out).mono ?_); rintro e1 w2 ⟨rfl, b⟩; have H2 := Lib.hid (blw HB.out b); clear b)
    go_ret2
    exact ⟨rfl, H2.out⟩
set_option maxRecDepth 100000 in
theorem value_conv {b : Nat} {m : Mg} (e : Ex) (A : Option Addr) (n c : Nat) (w : World) (hk : e.k = 8) (Z : Option Int) (C : ∀ X, Below w.heap.size w X → Calls Tryz.prog 36 #[.map (some b), exV e A n c] X (VlR X Z)) : Calls Tryz.prog 22 #[.map (some b), exV e A n c] w (VlR w Z) := by
  have hb : Below w.heap.size w (w.alloc (.cells (exC e A n c) 27)) := bal (b0 w) _
  have CO := Lib.hid (C _ hb)
  have HB := Lib.hid hb
  obtain ⟨k1, k2, k3, k4, k5, k6, k7, k8, k9⟩ := kd_of e.k (by omega)
  rw [decide_eq_false (by omega)] at k4 k6 k7 k9
  rw [decide_eq_true hk] at k8
  clear k5 C hb hk
  unfold VlR apR at CO
  unfold VlR apR
  generalize Z.getD 0 = z1 at *
  generalize Z.isSome = z2 at *
  dsimp only [exV, exC] at *
  generalize strOf e.s = S at *
  go_enter Tryz.func22, Tryz.ntmps22
  go_wp2_with (go_at_call 36; (with_reducible refine (CO.out).mono ?_); rintro e1 w2 ⟨rfl, b⟩; have H2 := Lib.hid (blw HB.out b); clear b)
  go_ret2
  exact ⟨rfl, H2.out⟩
/-- The value of a valid expression. -/
theorem value_any {b : Nat} {m : Mg} : ∀ e : Ex, allE e = true → ∀ (A : Option Addr) (n c : Nat) (w : World), TrR w A c e.l → e.l.length = n → OKe e → MgR w b m → Calls Tryz.prog 22 #[.map (some b), exV e A n c] w (VlR w (vOf m e)) := by
  refine Ex.ind fun e ih ha A n c w R hn ok M => ?_
  have C : ∀ j, j < e.l.length → VlC b m (e.l.getD j e0) := fun j hj B k d X RX hk MX => by
    obtain ⟨_, _, _, _, _, _, oky, _⟩ := R.at hj
    exact ih _ (getD_memE hj) (all_part ha (getD_memE hj)) B k d X RX hk oky MX
  rcases own_ways (all_own ha) with ⟨z, rfl⟩ | ⟨z, _, _, rfl⟩ | ⟨z, _, rfl⟩ | ⟨s, _, rfl⟩ | ⟨s, y, _, rfl⟩ | ⟨o, y, _, _, rfl⟩ | ⟨o, x, y, _, _, rfl⟩ | ⟨t, y, ht, rfl⟩ | ⟨s, _, rfl⟩
  · exact value_lit (m := m) _ A n c w (.inl rfl)
  · exact value_lit (m := m) _ A n c w (.inr (.inl rfl))
  · exact value_lit (m := m) _ A n c w (.inr (.inr rfl))
  · exact value_name _ A n c w rfl M
  · exact value_none (m := m) _ A n c w rfl
  · have hn : 1 = n := hn
    subst hn
    have e1 : vOf m (.mk 6 o 0 0 [] [y]) = (vOf m y).bind fun u => apO o u 0 := by
      unfold vOf
      rw [valE_eq, L14.valL_map]
      show ((ops2 [valE (rho m) (sig m) y]).bind fun p => apO o p.1 p.2) = _
      cases valE (rho m) (sig m) y <;> rfl
    rw [e1]
    exact value_op (m := m) _ A 1 c w (.inl rfl) _ fun X bX => operated_one _ A c X (R.keep bX) rfl (M.keep bX) (C 0 (by simp [Ex.l]))
  · have hn : 2 = n := hn
    subst hn
    have e1 : vOf m (.mk 7 o 0 0 [] [x, y]) = (vOf m x).bind fun u => (vOf m y).bind fun v => apO o u v := by
      unfold vOf
      rw [valE_eq, L14.valL_map]
      show ((ops2 [valE (rho m) (sig m) x, valE (rho m) (sig m) y]).bind fun p => apO o p.1 p.2) = _
      cases valE (rho m) (sig m) x <;> cases valE (rho m) (sig m) y <;> rfl
    rw [e1]
    exact value_op (m := m) _ A 2 c w (.inr rfl) _ fun X bX => operated_two _ A c X (R.keep bX) rfl (M.keep bX) (C 0 (by simp [Ex.l])) (C 1 (by simp [Ex.l]))
  · have e1 : vOf m (.mk 8 0 t 0 [] [y]) = (vOf m y).bind (conO t) := by
      unfold vOf
      rw [valE_eq, L14.valL_map]
      rfl
    rw [e1]
    exact value_conv (m := m) _ A n c w rfl _ fun X bX => converted_any _ A n c X (R.keep bX) hn (by rw [← hn]; simp [Ex.l]) ok ht (M.keep bX) (C 0 (by simp [Ex.l]))
  · exact value_size _ A n c w rfl M
end Go.Proofs.YtimbiobonigdmaaGreatDoor
/- The program: the kind of the literal that may stand for an expression. -/
set_option linter.unusedVariables false
set_option linter.unusedSimpArgs false
namespace Go.Proofs.YtimbiobonigdmaaGreatDoor
open Go Go.RowKit L8 L10 L14

theorem litOf_any (t : Nat) (w : World) : Calls Tryz.prog 86 #[.int .u8 (t : Int)] w fun e w' => e = .returned (.int .u8 (litT t : Int)) ∧ w = w' := by
  have q2 : ((t : Int) == 2) = decide (t = 2) := k_eq t 2
  have q3 : ((t : Int) == 3) = decide (t = 3) := k_eq t 3
  have HL := Lib.hid (show litT t = if t = 2 then 2 else if t = 3 then 3 else 1 from rfl)
  by_cases h2 : t = 2
  · rw [decide_eq_true h2] at q2
    have HZ := Lib.hid (show litT t = 2 by rw [HL.out, if_pos h2])
    clear h2 q3 HL
    go_enter Tryz.func86, Tryz.ntmps86
    go_wp2
    go_ret
    exact ⟨by rw [HZ.out]; rfl, rfl⟩
  · rw [decide_eq_false h2] at q2
    by_cases h3 : t = 3
    · rw [decide_eq_true h3] at q3
      have HZ := Lib.hid (show litT t = 3 by rw [HL.out, if_neg h2, if_pos h3])
      clear h2 h3 HL
      go_enter Tryz.func86, Tryz.ntmps86
      go_wp2
      go_ret
      exact ⟨by rw [HZ.out]; rfl, rfl⟩
    · rw [decide_eq_false h3] at q3
      have HZ := Lib.hid (show litT t = 1 by rw [HL.out, if_neg h2, if_neg h3])
      clear h2 h3 HL
      go_enter Tryz.func86, Tryz.ntmps86
      go_wp2
      go_ret
      exact ⟨by rw [HZ.out]; rfl, rfl⟩
/-- What literalKind answers. -/
def LkR (w : World) (K : Nat) (e : Ending) (w' : World) : Prop := e = .returned (.int .u8 (K : Int)) ∧ Below w.heap.size w w'
structure Ke (k : Nat) (p2 p3 p4 p6 p7 p8 : Bool) : Prop where
  k2 : ((k : Int) == 2) = p2
  k3 : ((k : Int) == 3) = p3
  k4 : ((k : Int) == 4) = p4
  k6 : ((k : Int) == 6) = p6
  k7 : ((k : Int) == 7) = p7
  k8 : ((k : Int) == 8) = p8
theorem ke_of (k : Nat) : Ke k (decide (k = 2)) (decide (k = 3)) (decide (k = 4)) (decide (k = 6)) (decide (k = 7)) (decide (k = 8)) := ⟨k_eq k 2, k_eq k 3, k_eq k 4, k_eq k 6, k_eq k 7, k_eq k 8⟩
set_option maxRecDepth 100000 in
theorem litKind_any {b : Nat} {m : Mg} (e : Ex) (A : Option Addr) (n c : Nat) (w : World) (M : MgR w b m) (hs : e.k = 4 → m e.s ≠ none) : Calls Tryz.prog 41 #[.map (some b), exV e A n c] w (LkR w (litK e.k e.o e.t (tau m e.s))) := by
  have hb : Below w.heap.size w (w.alloc (.cells (exC e A n c) 27)) := bal (b0 w) _
  have HB := Lib.hid hb
  obtain ⟨k2, k3, k4, k6, k7, k8⟩ := ke_of e.k
  have HL := Lib.hid (show ∀ u, litK e.k e.o e.t u = if e.k = 2 ∨ e.k = 3 then e.k else if e.k = 8 then litT e.t else if e.k = 4 then litT u else if (e.k = 6 ∨ e.k = 7) ∧ ((14 ≤ e.o ∧ e.o ≤ 22) ∨ e.o = 26) then 3 else 1 from fun u => rfl)
  have CL := Lib.hid litOf_any
  unfold LkR
  by_cases h23 : e.k = 2 ∨ e.k = 3
  · have HZ := Lib.hid (show litK e.k e.o e.t (tau m e.s) = e.k by rw [HL.out, if_pos h23])
    generalize litK e.k e.o e.t (tau m e.s) = Z at *
    dsimp only [exV, exC] at *
    generalize strOf e.s = S at *
    by_cases h2 : e.k = 2
    · rw [decide_eq_true h2] at k2
      rw [decide_eq_false (by omega)] at k3
      clear h2 h23 HL M hb hs k4 k6 k7 k8
      go_enter Tryz.func41, Tryz.ntmps41
      go_wp2
      go_ret
      exact ⟨by rw [HZ.out]; rfl, HB.out⟩
    · rw [decide_eq_false h2] at k2
      rw [decide_eq_true (by omega)] at k3
      clear h2 h23 HL M hb hs k4 k6 k7 k8
      go_enter Tryz.func41, Tryz.ntmps41
      go_wp2
      go_ret
      exact ⟨by rw [HZ.out]; rfl, HB.out⟩
  rw [decide_eq_false (fun h => h23 (.inl h))] at k2
  rw [decide_eq_false (fun h => h23 (.inr h))] at k3
  by_cases h8 : e.k = 8
  · have HZ := Lib.hid (show litK e.k e.o e.t (tau m e.s) = litT e.t by rw [HL.out, if_neg h23, if_pos h8])
    rw [HZ.out]
    rw [decide_eq_true h8] at k8
    clear h8 h23 HL M hb hs k4 k6 k7 HZ
    dsimp only [exV, exC] at *
    generalize strOf e.s = S at *
    generalize hZ : litT e.t = Z at *
    have C := Lib.hid (fun W => litOf_any e.t W)
    rw [hZ] at C
    clear hZ CL
    go_enter Tryz.func41, Tryz.ntmps41
    go_wp2_with (go_at_call 86; (with_reducible refine (C.out _).mono ?_); rintro e1 w2 ⟨rfl, rfl⟩)
    go_ret
    exact ⟨rfl, HB.out⟩
  rw [decide_eq_false h8] at k8
  by_cases h4 : e.k = 4
  · have HZ := Lib.hid (show litK e.k e.o e.t (tau m e.s) = litT (tau m e.s) by rw [HL.out, if_neg h23, if_neg h8, if_pos h4])
    rw [HZ.out]
    rw [decide_eq_true h4] at k4
    obtain ⟨l, ML, hML⟩ := M.keep hb
    have hrun : (Instr.lookup 59 (.map (some b)) (.string (strOf e.s)) false).run Tryz.prog (w.alloc (.cells (exC e A n c) 27)) = .ok ((getL l e.s).getD (lkV none none)) (w.alloc (.cells (exC e A n c) 27)) := run_look Tryz.underlying59 Tryz.underlying9 (zero_mg _) ML e.s
    rcases hML e.s with ⟨e1, _⟩ | ⟨x, v, p, e1, e2, e3, _⟩
    · exact absurd (by simpa using e1) (hs h4)
    rw [e2] at hrun
    have hta : tau m e.s = x.t := by unfold tau; rw [e1]
    rw [hta]
    obtain ⟨ok, A1, c1, B1, d1, H⟩ := e3
    have t1 := H.c1
    clear h4 h8 h23 HL M hb hs k6 k7 HZ hta e1 e2 hML ML ok H CL
    rw [show (some (lkV (some p) v)).getD (lkV none none) = lkV (some p) v from rfl] at hrun
    unfold lkV at hrun
    dsimp only [exV, exC] at *
    generalize strOf e.s = S at *
    generalize hZ : litT x.t = Z at *
    generalize (v.getD 0) = v1 at *
    generalize v.isSome = v2 at *
    have C := Lib.hid (fun W => litOf_any x.t W)
    rw [hZ] at C
    clear hZ
    have f0 := mg_f0
    go_enter Tryz.func41, Tryz.ntmps41
    go_wp2_with (go_at_call 86; (with_reducible refine (C.out _).mono ?_); rintro e1 w2 ⟨rfl, rfl⟩)
    go_ret
    exact ⟨rfl, HB.out⟩
  rw [decide_eq_false h4] at k4
  by_cases h67 : e.k = 6 ∨ e.k = 7
  · have HI := Lib.hid (show litK e.k e.o e.t (tau m e.s) = if (14 ≤ e.o ∧ e.o ≤ 22) ∨ e.o = 26 then 3 else 1 by
      rw [HL.out, if_neg h23, if_neg h8, if_neg h4]
      by_cases h : (14 ≤ e.o ∧ e.o ≤ 22) ∨ e.o = 26
      · rw [if_pos ⟨h67, h⟩, if_pos h]
      · rw [if_neg (fun g => h g.2), if_neg h])
    generalize litK e.k e.o e.t (tau m e.s) = Z at *
    have HT := Lib.hid (show (((e.k : Int) == 6) = true ∧ True) ∨ (((e.k : Int) == 6) = false ∧ ((e.k : Int) == 7) = true) by
      rcases h67 with h | h
      · exact .inl ⟨k6.trans (decide_eq_true h), trivial⟩
      · exact .inr ⟨k6.trans (decide_eq_false (by omega)), k7.trans (decide_eq_true h)⟩)
    have q14 : decide ((14 : Int) ≤ (e.o : Int)) = decide (14 ≤ e.o) := by by_cases h : 14 ≤ e.o <;> simp [h] <;> omega
    have q22 : decide ((e.o : Int) ≤ (22 : Int)) = decide (e.o ≤ 22) := by by_cases h : e.o ≤ 22 <;> simp [h] <;> omega
    have q26 : ((e.o : Int) == 26) = decide (e.o = 26) := k_eq e.o 26
    have hO : (14 ≤ e.o ∧ e.o ≤ 22) ∨ (14 ≤ e.o ∧ ¬ e.o ≤ 22 ∧ e.o = 26) ∨ (14 ≤ e.o ∧ ¬ e.o ≤ 22 ∧ ¬ e.o = 26) ∨ ¬ 14 ≤ e.o := by omega
    clear h4 h8 h23 HL M hb hs h67 CL k6 k7
    dsimp only [exV, exC] at *
    generalize strOf e.s = S at *
    rcases hO with ⟨g1, g2⟩ | ⟨g1, g2, g3⟩ | ⟨g1, g2, g3⟩ | g1
    · have HZ := Lib.hid (show Z = 3 by rw [HI.out, if_pos (.inl ⟨g1, g2⟩)])
      rw [decide_eq_true g1] at q14
      rw [decide_eq_true g2] at q22
      rw [decide_eq_false (by omega)] at q26
      clear g1 g2 HI
      rcases HT.out with ⟨k6, -⟩ | ⟨k6, k7⟩
      all_goals
        go_enter Tryz.func41, Tryz.ntmps41
        go_wp2
        go_ret
        exact ⟨by rw [HZ.out]; rfl, HB.out⟩
    · have HZ := Lib.hid (show Z = 3 by rw [HI.out, if_pos (.inr g3)])
      rw [decide_eq_true g1] at q14
      rw [decide_eq_false g2] at q22
      rw [decide_eq_true g3] at q26
      clear g1 g2 g3 HI
      rcases HT.out with ⟨k6, -⟩ | ⟨k6, k7⟩
      all_goals
        go_enter Tryz.func41, Tryz.ntmps41
        go_wp2
        go_ret
        exact ⟨by rw [HZ.out]; rfl, HB.out⟩
    · have HZ := Lib.hid (show Z = 1 by rw [HI.out, if_neg (by omega)])
      rw [decide_eq_true g1] at q14
      rw [decide_eq_false g2] at q22
      rw [decide_eq_false g3] at q26
      clear g1 g2 g3 HI
      rcases HT.out with ⟨k6, -⟩ | ⟨k6, k7⟩
      all_goals
        go_enter Tryz.func41, Tryz.ntmps41
        go_wp2
        go_ret
        exact ⟨by rw [HZ.out]; rfl, HB.out⟩
    · have g3 : ¬ e.o = 26 := by omega
      have HZ := Lib.hid (show Z = 1 by rw [HI.out, if_neg (by omega)])
      rw [decide_eq_false g1] at q14
      rw [decide_eq_false g3] at q26
      clear g1 g3 HI q22
      rcases HT.out with ⟨k6, -⟩ | ⟨k6, k7⟩
      all_goals
        go_enter Tryz.func41, Tryz.ntmps41
        go_wp2
        go_ret
        exact ⟨by rw [HZ.out]; rfl, HB.out⟩
  · have HZ := Lib.hid (show litK e.k e.o e.t (tau m e.s) = 1 by rw [HL.out, if_neg h23, if_neg h8, if_neg h4, if_neg (fun h => h67 h.1)])
    rw [HZ.out]
    rw [decide_eq_false (fun h => h67 (.inl h))] at k6
    rw [decide_eq_false (fun h => h67 (.inr h))] at k7
    clear h4 h8 h23 HL M hb hs HZ h67 CL
    dsimp only [exV, exC] at *
    generalize strOf e.s = S at *
    go_enter Tryz.func41, Tryz.ntmps41
    go_wp2
    go_ret
    exact ⟨rfl, HB.out⟩
end Go.Proofs.YtimbiobonigdmaaGreatDoor
/- The program: folding an expression. -/
set_option linter.unusedVariables false
set_option linter.unusedSimpArgs false
namespace Go.Proofs.YtimbiobonigdmaaGreatDoor
open Go Go.RowKit L8 L10 L14

/-- What folding answers: a tree whose parts lie in new memory. -/
def FdR (w : World) (f : Ex) (e : Ending) (w' : World) : Prop := ∃ A c, e = .returned (exV f A f.l.length c) ∧ TrN w' (fun k => w.heap.size ≤ k) A c f.l ∧ OKe f ∧ Below w.heap.size w w'
/-- A tree appended to a row of the call's own. -/
theorem app_tree {w : World} {ops : Array Oper} {rest : List Oper} {o : Oper} {a : Act} {Q : Exit → Act → World → Prop} (hgd : o.guard = none) (s y : Operand)
    (ho : o.op = .call { callee := .builtin .append, args := #[s, y], argTypes := #[25, 25] }) (base n c : Nat) (A : Option Addr) (l : List It) (x : It) (ad : Addr) (hs : a.eval s = .slice A n c) (hx : a.eval y = .slice (some ad) 1 1)
    (hown : TrO w base A n c l) (ok : OKe x.e) (ht : TrN w (Nb base A) x.A x.c x.e.l) (hc : ∀ j u, (itC x)[j]? = some u → w.cell? (ad.add j) = some u) (h63 : n + 1 ≤ 1000000) (hbase : base ≤ w.heap.size)
    (h : ∀ A2 c2 w', TrO w' base A2 (n + 1) c2 (l ++ [x]) → w.grownBy w' (Value.slice A n c).ownBlock → wpList Tryz.prog ops Q rest (a.put o.dst (.slice A2 (n + 1) c2)) w') : wpList Tryz.prog ops Q (o :: rest) a w := by
  refine wpList_plain hgd fun K hK => ?_
  obtain ⟨A2, c2, w', hr, h1, h2⟩ := run_tree (ty := o.type) hown x ok ht ad hc h63 hbase
  unfold Oper.wp execOp
  simp only [ho, resolve, invoke, builtin, Sem.run_bind, Sem.run_pure, Result.andThen_ok, List.map_toArray, List.map_cons, List.map_nil, hs, hx, hr]
  exact hK _ _ (h A2 c2 w' h1 h2)
def zeroC : Array Value := #[.int .u8 0, .int .u8 0, .int .u8 0, .int .i32 0, .string ⟨#[]⟩, .slice none 0 0]
/-- The two boxes. -/
structure FdS (w X : World) (cs : Array Value) : Prop where
  bel : Below w.heap.size w X
  box : BoxS X w.heap.size 27 cs
  res : BoxS X (w.heap.size + 1) 27 zeroC
theorem FdS.step {w X Y : World} {cs : Array Value} (h : FdS w X cs) (b : Below X.heap.size X Y) : FdS w Y cs := ⟨blw h.bel b, h.box.below b, h.res.below b⟩
theorem FdS.new (w : World) (cs : Array Value) : FdS w ((w.alloc (.cells cs 27)).alloc (.cells zeroC 27)) cs := by
  refine ⟨bal (bal (b0 w) _) _, (boxS_new w _ _).alloc _, ?_⟩
  have := boxS_new (w.alloc (.cells cs 27)) 27 zeroC
  rwa [World.size_alloc] at this
theorem FdS.lt {w X : World} {cs : Array Value} (h : FdS w X cs) : w.heap.size + 2 ≤ X.heap.size := h.res.lt
/-- With the parts that have been folded. -/
structure FlS (w X : World) (cs : Array Value) (P : Option Addr) (j d : Nat) (its : List It) : Prop where
  fd : FdS w X cs
  row : TrO X (w.heap.size + 2) P j d its
theorem FlS.step {w X Y : World} {cs : Array Value} {P : Option Addr} {j d : Nat} {its : List It} (h : FlS w X cs P j d its) (b : Below X.heap.size X Y) : FlS w Y cs P j d its := ⟨h.fd.step b, h.row.keep b⟩
theorem own_lt {w : World} {B n c : Nat} {A : Option Addr} {l : List It} (h : TrO w B A n c l) : ∀ ad, A = some ad → B ≤ ad.block ∧ ad.block < w.heap.size := fun ad e => World.ownsRow.lt h.own ad.block (by rw [e]; rfl)
theorem FlS.app {w X Y : World} {cs : Array Value} {P Q : Option Addr} {j d d' : Nat} {its its' : List It} (h : FlS w X cs P j d its) (r : TrO Y (w.heap.size + 2) Q (j + 1) d' its') (g : X.grownBy Y (Value.slice P j d).ownBlock) : FlS w Y cs Q (j + 1) d' its' := by
  have hp : ∀ k, (Value.slice P j d).ownBlock = some k → w.heap.size + 2 ≤ k := fun k e => by
    obtain ⟨ad, e1, e2⟩ := ob_some e
    have := (own_lt h.row ad e1).1
    omega
  have nb : ∀ k, k < w.heap.size + 2 → some k ≠ (Value.slice P j d).ownBlock := fun k hk e => by have := hp k e.symm; omega
  refine ⟨⟨?_, h.fd.box.kept g (nb _ (by omega)), h.fd.res.kept g (nb _ (by omega))⟩, r⟩
  exact Below.grown h.fd.bel g h.fd.bel.size (fun k e => by have := hp k e; omega)
theorem it_cells {X : World} (f : Ex) (A : Option Addr) (c : Nat) : ∀ j u, (itC ⟨f, A, c⟩)[j]? = some u → (X.alloc (.cells (exC f A f.l.length c) 27)).cell? ((⟨X.heap.size, 0, none⟩ : Addr).add j) = some u := fun j u h => by
  rw [add_plain, Nat.zero_add]
  rw [(boxS_new X 27 (exC f A f.l.length c)).cell j, ← h]
  show (itC ⟨f, A, c⟩).toArray[j]? = _
  rw [List.getElem?_toArray]
/-- The item that is appended, in the world behind the call and the one-element slice. -/
theorem FlS.item {w X V W : World} {cs : Array Value} {P A : Option Addr} {j d c : Nat} {its : List It} {f : Ex} (h : FlS w X cs P j d its) (hv : X.heap.size ≤ V.heap.size) (t : TrN W (fun k => V.heap.size ≤ k) A c f.l) : TrN W (Nb (w.heap.size + 2) P) A c f.l :=
  t.mono fun k hk hn => ⟨by have := h.fd.lt; omega, fun ad e => by have := (own_lt h.row ad e).2; omega⟩
/-- The world behind the last stores. -/
theorem FlS.fin {w W : World} {cs : Array Value} {P : Option Addr} {j d : Nat} {its : List It} (h : FlS w W cs P j d its) (u v0 v1 v2 v3 v4 v5 : Value) :
    BoxS (set6 (W.setCell ⟨w.heap.size, 5, none⟩ u) (w.heap.size + 1) v0 v1 v2 v3 v4 v5) (w.heap.size + 1) 27 #[v0, v1, v2, v3, v4, v5] ∧ TrN (set6 (W.setCell ⟨w.heap.size, 5, none⟩ u) (w.heap.size + 1) v0 v1 v2 v3 v4 v5) (fun k => w.heap.size ≤ k) P d (its.map It.e) ∧ Below w.heap.size w (set6 (W.setCell ⟨w.heap.size, 5, none⟩ u) (w.heap.size + 1) v0 v1 v2 v3 v4 v5) := by
  have g1 : Fr W (W.setCell ⟨w.heap.size, 5, none⟩ u) (fun k => k = w.heap.size) :=
    ⟨rfl, rfl, rfl, by show _ ≤ (W.heap.modify w.heap.size _).size; rw [Array.size_modify]; exact Nat.le_refl _, fun k hk hr => Below.heap_setCell W ⟨w.heap.size, 5, none⟩ u k (fun e => hr (by rw [show k = w.heap.size from e]))⟩
  have g2 := fr_set6 (W.setCell ⟨w.heap.size, 5, none⟩ u) (w.heap.size + 1) v0 v1 v2 v3 v4 v5
  refine ⟨box6_all _ _ _ _ _ _ (boxS_other h.fd.res (by omega) u), ?_, bset6 (bset h.fd.bel (Nat.le_refl _) u) (by omega) _ _ _ _ _ _⟩
  have t := (h.row.tr.fr g1 fun k _ hk e => by omega).fr g2 fun k _ hk e => by omega
  exact t.mono fun k _ hk => by omega
theorem FdS.fin {w W : World} {cs : Array Value} (h : FdS w W cs) (v0 v1 v2 v3 v4 v5 : Value) :
    BoxS (set6 W (w.heap.size + 1) v0 v1 v2 v3 v4 v5) (w.heap.size + 1) 27 #[v0, v1, v2, v3, v4, v5] ∧ Below w.heap.size w (set6 W (w.heap.size + 1) v0 v1 v2 v3 v4 v5) :=
  ⟨box6_all _ _ _ _ _ _ h.res, bset6 h.bel (by omega) _ _ _ _ _ _⟩
theorem ok_lit {K : Nat} {v : Int} (hK : K < 256) (hv : inW v) : OKe (litE K v) := ⟨hK, (by show (0 : Nat) < 256; decide), (by show (0 : Nat) < 256; decide), hv.1, hv.2, by show 0 ≤ maxLen; omega⟩
theorem may_lit (K : Nat) (v : Int) (hK : K < 256) (hv : inW v) (X : World) (ht : T10 X) : Calls Tryz.prog 20 #[.agg #[.int .u8 (K : Int), .int .u8 0, .int .u8 0, .int .i32 v, .string ⟨#[]⟩, .slice none 0 0]] X fun en w' => en = .returned (.bool (mayE (litE K v))) ∧ Below X.heap.size X w' :=
  PMayX_any (litE K v) none 0 0 X (TrR.nil X) rfl (ok_lit hK hv) ht
theorem litK_lt {k o t u : Nat} (hk : k < 256) : litK k o t u < 256 := by
  unfold litK litT
  repeat' split
  all_goals omega
set_option maxRecDepth 100000 in
set_option maxHeartbeats 8000000 in
theorem folded_lit {b : Nat} {m : Mg} (e : Ex) (A : Option Addr) (n c : Nat) (w : World) (R : TrR w A c e.l) (hn : e.l.length = n) (ok : OKe e) (ha : allE e = true) (M : MgR w b m) (T : T10 w) (v : Int) (hv : vOf m e = some v) (hs : e.k = 4 → m e.s ≠ none) (hm : mayE (litE (litK e.k e.o e.t (tau m e.s)) v) = true) :
    Calls Tryz.prog 26 #[.map (some b), exV e A n c] w (FdR w (litE (litK e.k e.o e.t (tau m e.s)) v)) := by
  have hin := val_in M.inM e ok R v hv
  have hlt : litK e.k e.o e.t (tau m e.s) < 256 := litK_lt ok.1
  have CV : ∀ X, Below w.heap.size w X → Calls Tryz.prog 22 #[.map (some b), exV e A n c] X (VlR X (vOf m e)) := fun X bX => value_any e ha A n c X (R.keep bX) hn ok (M.keep bX)
  have CK : ∀ X, Below w.heap.size w X → Calls Tryz.prog 41 #[.map (some b), exV e A n c] X (LkR X (litK e.k e.o e.t (tau m e.s))) := fun X bX => litKind_any e A n c X (M.keep bX) hs
  have HL := Lib.hid (ok_lit hlt hin)
  have CM : ∀ X, Below w.heap.size w X → _ := fun X bX => may_lit _ v hlt hin X (T.below bX)
  rw [hm] at CM
  rw [hv] at CV
  have HN := Lib.hid (FdS.new w (exC e A n c))
  clear R hn ok ha M T hv hs hm hin hlt
  generalize litK e.k e.o e.t (tau m e.s) = K at *
  unfold VlR apR at CV
  unfold LkR at CK
  dsimp only [Option.getD, Option.isSome] at CV
  dsimp only [exV, exC] at *
  generalize strOf e.s = S at *
  unfold zeroC at HN
  have CV := Lib.hid CV
  have CK := Lib.hid CK
  have CM := Lib.hid CM
  have C1 := Lib.hid (CV.out _ HN.out.bel)
  have HP := Lib.hid (box6 HN.out.box)
  obtain ⟨p0, p1, p2, p3, p4, p5⟩ := HP.out
  go_enter Tryz.func26, Tryz.ntmps26
  go_wp2_with (first
    | (go_at_call 22; (with_reducible refine (C1.out).mono ?_); rintro e1 w1 ⟨rfl, b⟩; have H1 := Lib.hid (HN.out.step b); have C2 := Lib.hid (CK.out w1 H1.out.bel); obtain ⟨p0, p1, p2, p3, p4, p5⟩ := box6 H1.out.box; clear b)
    | (go_at_call 41; (with_reducible refine (C2.out).mono ?_); rintro e1 w2 ⟨rfl, b⟩; have H2 := Lib.hid (H1.out.step b); have C3 := Lib.hid (CM.out _ (bal H2.out.bel (.cells #[.int .u8 (K : Int), .int .u8 0, .int .u8 0, .int .i32 v, .string ⟨#[]⟩, .slice none 0 0] 27))); clear b)
    | (go_at_call 20; (with_reducible refine (C3.out).mono ?_); rintro e1 w3 ⟨rfl, b⟩; have H3 := Lib.hid ((H2.out.step (bal (b0 w2) (.cells #[.int .u8 (K : Int), .int .u8 0, .int .u8 0, .int .i32 v, .string ⟨#[]⟩, .slice none 0 0] 27))).step b); obtain ⟨l0, l1, l2, l3, l4, l5⟩ := box6 ((boxS_new w2 27 #[.int .u8 (K : Int), .int .u8 0, .int .u8 0, .int .i32 v, .string ⟨#[]⟩, .slice none 0 0]).below b); obtain ⟨r0, r1, r2, r3, r4, r5⟩ := box6 H3.out.res; obtain ⟨f0, f1, f2, f3, f4, f5⟩ := box6f H3.out.res; clear b))
  have KQ := Lib.hid (H3.out.fin (.int .u8 (K : Int)) (.int .u8 0) (.int .u8 0) (.int .i32 v) (.string ⟨#[]⟩) (.slice none 0 0))
  unfold set6 at KQ
  clear l0 l1 l2 l3 l4 l5 r0 r1 r2 r3 r4 r5 f0 f1 f2 f3 f4 f5
  generalize (((((w3.setCell ⟨w.heap.size + 1, 0, none⟩ (.int .u8 (K : Int))).setCell ⟨w.heap.size + 1, 1, none⟩ (.int .u8 0)).setCell ⟨w.heap.size + 1, 2, none⟩ (.int .u8 0)).setCell ⟨w.heap.size + 1, 3, none⟩ (.int .i32 v)).setCell ⟨w.heap.size + 1, 4, none⟩ (.string ⟨#[]⟩)).setCell ⟨w.heap.size + 1, 5, none⟩ (.slice none 0 0) = X at *
  obtain ⟨y0, y1, y2, y3, y4, y5⟩ := box6 KQ.out.1
  refine bodyPost_ret (v := .agg #[.int .u8 (K : Int), .int .u8 0, .int .u8 0, .int .i32 v, .string ⟨#[]⟩, .slice none 0 0]) (by simp [results, Tryz.results26, go_sem, y0, y1, y2, y3, y4, y5]) rfl ⟨none, 0, rfl, TrN.nil _ _, HL.out, KQ.out.2⟩
end Go.Proofs.YtimbiobonigdmaaGreatDoor
/- The program: folding an expression, part by part. -/
set_option linter.unusedVariables false
set_option linter.unusedSimpArgs false
namespace Go.Proofs.YtimbiobonigdmaaGreatDoor
open Go Go.RowKit L8 L10 L14

theorem foldL_take {p q : Bs → Option Int} {u : Bs → Nat} {l : List Ex} {j : Nat} (hj : j < l.length) : L14.foldL p q u (l.take (j + 1)) = L14.foldL p q u (l.take j) ++ [foldE p q u (l.getD j e0)] := by
  rw [take_one hj, foldL_map, foldL_map, List.map_append]
  rfl
theorem own_le {e : Ex} (h : allE e = true) : e.l.length ≤ 2 := by
  have := all_own h
  unfold ownE at this
  rw [Bool.and_eq_true, Bool.and_eq_true, decide_eq_true_eq] at this
  rw [this.2.1]
  unfold parts
  repeat' split
  all_goals omega
set_option maxRecDepth 100000 in
set_option maxHeartbeats 8000000 in
theorem folded_parts {b : Nat} {m : Mg} (e : Ex) (A : Option Addr) (n c : Nat) (w : World) (R : TrR w A c e.l) (hn : e.l.length = n) (ok : OKe e) (ha : allE e = true) (M : MgR w b m) (T : T10 w) (hs : vOf m e ≠ none → e.k = 4 → m e.s ≠ none) (hno : ∀ v, vOf m e = some v → mayE (litE (litK e.k e.o e.t (tau m e.s)) v) = false)
    (IH : ∀ j, j < n → ∀ (B : Option Addr) (k d : Nat) (X : World), TrR X B d (e.l.getD j e0).l → (e.l.getD j e0).l.length = k → MgR X b m → T10 X → Calls Tryz.prog 26 #[.map (some b), exV (e.l.getD j e0) B k d] X (FdR X (fOf m (e.l.getD j e0)))) :
    Calls Tryz.prog 26 #[.map (some b), exV e A n c] w (FdR w (.mk e.k e.o e.t e.n e.s (L14.foldL (rho m) (sig m) (tau m) e.l))) := by
  have hlt : litK e.k e.o e.t (tau m e.s) < 256 := litK_lt ok.1
  have hn2 : n ≤ 2 := by have := own_le ha; omega
  have CV : ∀ X, Below w.heap.size w X → Calls Tryz.prog 22 #[.map (some b), exV e A n c] X (VlR X (vOf m e)) := fun X bX => value_any e ha A n c X (R.keep bX) hn ok (M.keep bX)
  have CK : vOf m e ≠ none → ∀ X, Below w.heap.size w X → Calls Tryz.prog 41 #[.map (some b), exV e A n c] X (LkR X (litK e.k e.o e.t (tau m e.s))) := fun h X bX => litKind_any e A n c X (M.keep bX) (hs h)
  have HL : ∀ v, vOf m e = some v → inW v := val_in M.inM e ok R
  have CM : ∀ v, vOf m e = some v → ∀ X, Below w.heap.size w X → _ := fun v hv X bX => may_lit _ v hlt (HL v hv) X (T.below bX)
  have HOK := Lib.hid (show OKe (.mk e.k e.o e.t e.n e.s (L14.foldL (rho m) (sig m) (tau m) e.l)) from ok)
  have HPA : Hid (∀ j, j < n → ∃ ad, A = some ad ∧ ∃ B d, ∀ X, Below w.heap.size w X → (Calls Tryz.prog 26 #[.map (some b), exV (e.l.getD j e0) B (e.l.getD j e0).l.length d] X (FdR X (fOf m (e.l.getD j e0)))) ∧
      X.cell? (ad.add (j * 6)) = some (.int .u8 ((e.l.getD j e0).k : Int)) ∧ X.cell? ⟨(ad.add (j * 6)).block, (ad.add (j * 6)).off + 1, none⟩ = some (.int .u8 ((e.l.getD j e0).o : Int)) ∧ X.cell? ⟨(ad.add (j * 6)).block, (ad.add (j * 6)).off + 2, none⟩ = some (.int .u8 ((e.l.getD j e0).t : Int)) ∧ X.cell? ⟨(ad.add (j * 6)).block, (ad.add (j * 6)).off + 3, none⟩ = some (.int .i32 (e.l.getD j e0).n)
      ∧ X.cell? ⟨(ad.add (j * 6)).block, (ad.add (j * 6)).off + 4, none⟩ = some (.string (strOf (e.l.getD j e0).s)) ∧ X.cell? ⟨(ad.add (j * 6)).block, (ad.add (j * 6)).off + 5, none⟩ = some (.slice B (e.l.getD j e0).l.length d)) := Lib.hid fun j hj => by
    obtain ⟨ad, e1, B, k, d, hk, oky, Ry, y0, y1, y2, y3, y4, y5⟩ := R.at (j := j) (by omega)
    subst hk
    exact ⟨ad, e1, B, d, fun X bX => ⟨IH j hj B _ d X (Ry.keep bX) rfl (M.keep bX) (T.below bX), (bX.cell (g_lt y0)).trans y0, (bX.cell (g_lt y1)).trans y1, (bX.cell (g_lt y2)).trans y2, (bX.cell (g_lt y3)).trans y3, (bX.cell (g_lt y4)).trans y4, (bX.cell (g_lt y5)).trans y5⟩⟩
  have HTK : Hid (∀ j, j < n → L14.foldL (rho m) (sig m) (tau m) (e.l.take (j + 1)) = L14.foldL (rho m) (sig m) (tau m) (e.l.take j) ++ [fOf m (e.l.getD j e0)]) := Lib.hid fun j hj => foldL_take (by omega)
  have HTN := Lib.hid (show e.l.take n = e.l by rw [← hn, List.take_length])
  have HLN := Lib.hid (show (L14.foldL (rho m) (sig m) (tau m) e.l).length = n by rw [foldL_len, hn])
  have HN := Lib.hid (FdS.new w (exC e A n c))
  have hmx : n ≤ maxLen := by have := R.le; have := R.mx; omega
  unfold maxLen at hmx
  clear R hn ok ha M T hs hlt IH HL
  generalize litK e.k e.o e.t (tau m e.s) = K at *
  unfold VlR apR at CV
  unfold LkR at CK
  unfold FdR at HPA
  dsimp only [exV, exC] at *
  generalize hS : strOf e.s = S at *
  have HSS := Lib.hid hS
  clear hS
  unfold zeroC at HN
  have HP := Lib.hid (box6 HN.out.box)
  obtain ⟨p0, p1, p2, p3, p4, p5⟩ := HP.out
  cases hv : vOf m e with
  | none =>
    rw [hv] at CV
    dsimp only [Option.getD, Option.isSome] at CV
    have C1 := Lib.hid (CV _ HN.out.bel)
    clear CV CK CM hno hv
    go_enter Tryz.func26, Tryz.ntmps26
    go_wp2_with (go_at_call 22; (with_reducible refine (C1.out).mono ?_); rintro e1 w1 ⟨rfl, b⟩; have H1 := Lib.hid (HN.out.step b); clear p0 p1 p2 p3 p4 p5; obtain ⟨p0, p1, p2, p3, p4, p5⟩ := box6 H1.out.box; clear b)
    clear p0 p1 p2 p3 p4 p5
    go_loopw [8, 29] (fun p i wr => ∃ j P d its, j ≤ n ∧ i = .int .i64 (j : Int) ∧ p = .slice P j d ∧ Hid (FlS w wr #[.int .u8 (e.k : Int), .int .u8 (e.o : Int), .int .u8 (e.t : Int), .int .i32 e.n, .string S, .slice A n c] P j d its ∧ its.map It.e = L14.foldL (rho m) (sig m) (tau m) (e.l.take j))) (fun _ i _ => n - (intOf i).toNat)
    case atStart => exact ⟨0, none, 0, [], Nat.zero_le _, rfl, rfl, Lib.hid ⟨⟨H1.out, TrO.nil _ _⟩, by rw [List.take_zero]; rfl⟩⟩
    case round =>
      obtain ⟨j, P, d, its, hj, rfl, rfl, H⟩ := hrel
      have hj0 : (0 : Int) ≤ (j : Int) := by omega
      by_cases hlt : (j : Int) < (n : Int)
      · obtain ⟨ad, rfl, B, f, HY⟩ := HPA.out j (by omega)
        have HY := Lib.hid HY
        obtain ⟨-, y0, y1, y2, y3, y4, y5⟩ := HY.out wr H.out.1.fd.bel
        have HS := Lib.hid (HTK.out j (by omega))
        have hj2 : j ≤ 2 := by omega
        generalize hg : fOf m (e.l.getD j e0) = g at *
        generalize e.l.getD j e0 = y at *
        generalize y.l.length = k at *
        generalize strOf y.s = SY at *
        have CF := Lib.hid (HY.out _ (bal H.out.1.fd.bel (.cells #[.int .u8 (y.k : Int), .int .u8 (y.o : Int), .int .u8 (y.t : Int), .int .i32 y.n, .string SY, .slice B k f] 27))).1
        go_wp2_with (first
          | (go_at_call 26; (with_reducible refine (CF.out).mono ?_); rintro e1 w9 ⟨Af, cf, rfl, tf, okf, b⟩; have H9 := Lib.hid ((H.out.1.step (bal (b0 wr) (.cells #[.int .u8 (y.k : Int), .int .u8 (y.o : Int), .int .u8 (y.t : Int), .int .i32 y.n, .string SY, .slice B k f] 27))).step b); have HT := Lib.hid (And.intro okf tf); have HI := Lib.hid (it_cells (X := w9) g Af cf); have hz9 : w.heap.size + 2 ≤ w9.heap.size := H9.out.fd.lt; have b9 := bal (b0 w9) (.cells #[.int .u8 (g.k : Int), .int .u8 (g.o : Int), .int .u8 (g.t : Int), .int .i32 g.n, .string (strOf g.s), .slice Af g.l.length cf] 27); have B9 := Lib.hid b9; clear b tf okf b9)
          | (at_builtin; refine app_tree rfl _ _ rfl (w.heap.size + 2) j d P its ⟨g, Af, cf⟩ ⟨w9.heap.size, 0, none⟩ rfl rfl (H9.out.step B9.out).row HT.out.1 ((H.out.1.item (V := wr.alloc (.cells #[.int .u8 (y.k : Int), .int .u8 (y.o : Int), .int .u8 (y.t : Int), .int .i32 y.n, .string SY, .slice B k f] 27)) (by simp) (HT.out.2.keep B9.out))) HI.out (by omega) (by simp; omega) ?_; rintro Q d' w10 r gr; have H10 := Lib.hid ((H9.out.step B9.out).app r gr); clear r gr))
        go_roundw
        case rel => exact ⟨j + 1, Q, d', its ++ [⟨g, Af, cf⟩], by omega, by go_num, rfl, Lib.hid ⟨H10.out, by rw [List.map_append, H.out.2, HS.out]; rfl⟩⟩
        case measure => simp [intOf]; omega
      · obtain rfl : j = n := by omega
        obtain ⟨p0, p1, p2, p3, p4, p5⟩ := box6 H.out.1.fd.box
        obtain ⟨-, -, -, -, -, g5⟩ := box6f H.out.1.fd.box
        obtain ⟨r0, r1, r2, r3, r4, r5⟩ := box6 H.out.1.fd.res
        obtain ⟨f0, f1, f2, f3, f4, f5⟩ := box6f H.out.1.fd.res
        have KQ := Lib.hid (H.out.1.fin (.slice P j d) (.int .u8 (e.k : Int)) (.int .u8 (e.o : Int)) (.int .u8 (e.t : Int)) (.int .i32 e.n) (.string S) (.slice P j d))
        unfold set6 at KQ
        go_wp2
        clear p0 p1 p2 p3 p4 p5 g5 r0 r1 r2 r3 r4 r5 f0 f1 f2 f3 f4 f5
        generalize ((((((wr.setCell ⟨w.heap.size, 5, none⟩ (.slice P j d)).setCell ⟨w.heap.size + 1, 0, none⟩ (.int .u8 (e.k : Int))).setCell ⟨w.heap.size + 1, 1, none⟩ (.int .u8 (e.o : Int))).setCell ⟨w.heap.size + 1, 2, none⟩ (.int .u8 (e.t : Int))).setCell ⟨w.heap.size + 1, 3, none⟩ (.int .i32 e.n)).setCell ⟨w.heap.size + 1, 4, none⟩ (.string S)).setCell ⟨w.heap.size + 1, 5, none⟩ (.slice P j d) = X at *
        obtain ⟨y0, y1, y2, y3, y4, y5⟩ := box6 KQ.out.1
        refine bodyPost_ret (v := .agg #[.int .u8 (e.k : Int), .int .u8 (e.o : Int), .int .u8 (e.t : Int), .int .i32 e.n, .string S, .slice P j d]) (by simp [results, Tryz.results26, go_sem, y0, y1, y2, y3, y4, y5]) rfl ⟨P, d, ?_, ?_, HOK.out, KQ.out.2.2⟩
        · show _ = Ending.returned (.agg #[_, _, _, _, .string (strOf e.s), .slice P (L14.foldL (rho m) (sig m) (tau m) e.l).length d])
          rw [HLN.out, HSS.out]
          rfl
        · have := KQ.out.2.1
          rw [H.out.2, HTN.out] at this
          exact this
  | some v =>
    rw [hv] at CV
    dsimp only [Option.getD, Option.isSome] at CV
    have CK := Lib.hid (CK (by rw [hv]; simp))
    have CM := CM v hv
    rw [hno v hv] at CM
    have CM := Lib.hid CM
    have C1 := Lib.hid (CV _ HN.out.bel)
    clear CV hno hv
    go_enter Tryz.func26, Tryz.ntmps26
    go_wp2_with (first
      | (go_at_call 22; (with_reducible refine (C1.out).mono ?_); rintro e1 w1 ⟨rfl, b⟩; have H1 := Lib.hid (HN.out.step b); have C2 := Lib.hid (CK.out w1 H1.out.bel); obtain ⟨p0, p1, p2, p3, p4, p5⟩ := box6 H1.out.box; clear b)
      | (go_at_call 41; (with_reducible refine (C2.out).mono ?_); rintro e1 w2 ⟨rfl, b⟩; have H2 := Lib.hid (H1.out.step b); have C3 := Lib.hid (CM.out _ (bal H2.out.bel (.cells #[.int .u8 (K : Int), .int .u8 0, .int .u8 0, .int .i32 v, .string ⟨#[]⟩, .slice none 0 0] 27))); clear b)
      | (go_at_call 20; (with_reducible refine (C3.out).mono ?_); rintro e1 w3 ⟨rfl, b⟩; have H3 := Lib.hid ((H2.out.step (bal (b0 w2) (.cells #[.int .u8 (K : Int), .int .u8 0, .int .u8 0, .int .i32 v, .string ⟨#[]⟩, .slice none 0 0] 27))).step b); obtain ⟨p0, p1, p2, p3, p4, p5⟩ := box6 H3.out.box; clear b))
    clear p0 p1 p2 p3 p4 p5
    go_loopw [8, 29] (fun p i wr => ∃ j P d its, j ≤ n ∧ i = .int .i64 (j : Int) ∧ p = .slice P j d ∧ Hid (FlS w wr #[.int .u8 (e.k : Int), .int .u8 (e.o : Int), .int .u8 (e.t : Int), .int .i32 e.n, .string S, .slice A n c] P j d its ∧ its.map It.e = L14.foldL (rho m) (sig m) (tau m) (e.l.take j))) (fun _ i _ => n - (intOf i).toNat)
    case atStart => exact ⟨0, none, 0, [], Nat.zero_le _, rfl, rfl, Lib.hid ⟨⟨H3.out, TrO.nil _ _⟩, by rw [List.take_zero]; rfl⟩⟩
    case round =>
      obtain ⟨j, P, d, its, hj, rfl, rfl, H⟩ := hrel
      have hj0 : (0 : Int) ≤ (j : Int) := by omega
      by_cases hlt : (j : Int) < (n : Int)
      · obtain ⟨ad, rfl, B, f, HY⟩ := HPA.out j (by omega)
        have HY := Lib.hid HY
        obtain ⟨-, y0, y1, y2, y3, y4, y5⟩ := HY.out wr H.out.1.fd.bel
        have HS := Lib.hid (HTK.out j (by omega))
        have hj2 : j ≤ 2 := by omega
        generalize hg : fOf m (e.l.getD j e0) = g at *
        generalize e.l.getD j e0 = y at *
        generalize y.l.length = k at *
        generalize strOf y.s = SY at *
        have CF := Lib.hid (HY.out _ (bal H.out.1.fd.bel (.cells #[.int .u8 (y.k : Int), .int .u8 (y.o : Int), .int .u8 (y.t : Int), .int .i32 y.n, .string SY, .slice B k f] 27))).1
        go_wp2_with (first
          | (go_at_call 26; (with_reducible refine (CF.out).mono ?_); rintro e1 w9 ⟨Af, cf, rfl, tf, okf, b⟩; have H9 := Lib.hid ((H.out.1.step (bal (b0 wr) (.cells #[.int .u8 (y.k : Int), .int .u8 (y.o : Int), .int .u8 (y.t : Int), .int .i32 y.n, .string SY, .slice B k f] 27))).step b); have HT := Lib.hid (And.intro okf tf); have HI := Lib.hid (it_cells (X := w9) g Af cf); have hz9 : w.heap.size + 2 ≤ w9.heap.size := H9.out.fd.lt; have b9 := bal (b0 w9) (.cells #[.int .u8 (g.k : Int), .int .u8 (g.o : Int), .int .u8 (g.t : Int), .int .i32 g.n, .string (strOf g.s), .slice Af g.l.length cf] 27); have B9 := Lib.hid b9; clear b tf okf b9)
          | (at_builtin; refine app_tree rfl _ _ rfl (w.heap.size + 2) j d P its ⟨g, Af, cf⟩ ⟨w9.heap.size, 0, none⟩ rfl rfl (H9.out.step B9.out).row HT.out.1 ((H.out.1.item (V := wr.alloc (.cells #[.int .u8 (y.k : Int), .int .u8 (y.o : Int), .int .u8 (y.t : Int), .int .i32 y.n, .string SY, .slice B k f] 27)) (by simp) (HT.out.2.keep B9.out))) HI.out (by omega) (by simp; omega) ?_; rintro Q d' w30 r gr; have H10 := Lib.hid ((H9.out.step B9.out).app r gr); clear r gr))
        go_roundw
        case rel => exact ⟨j + 1, Q, d', its ++ [⟨g, Af, cf⟩], by omega, by go_num, rfl, Lib.hid ⟨H10.out, by rw [List.map_append, H.out.2, HS.out]; rfl⟩⟩
        case measure => simp [intOf]; omega
      · obtain rfl : j = n := by omega
        obtain ⟨p0, p1, p2, p3, p4, p5⟩ := box6 H.out.1.fd.box
        obtain ⟨-, -, -, -, -, g5⟩ := box6f H.out.1.fd.box
        obtain ⟨r0, r1, r2, r3, r4, r5⟩ := box6 H.out.1.fd.res
        obtain ⟨f0, f1, f2, f3, f4, f5⟩ := box6f H.out.1.fd.res
        have KQ := Lib.hid (H.out.1.fin (.slice P j d) (.int .u8 (e.k : Int)) (.int .u8 (e.o : Int)) (.int .u8 (e.t : Int)) (.int .i32 e.n) (.string S) (.slice P j d))
        unfold set6 at KQ
        go_wp2
        clear p0 p1 p2 p3 p4 p5 g5 r0 r1 r2 r3 r4 r5 f0 f1 f2 f3 f4 f5
        generalize ((((((wr.setCell ⟨w.heap.size, 5, none⟩ (.slice P j d)).setCell ⟨w.heap.size + 1, 0, none⟩ (.int .u8 (e.k : Int))).setCell ⟨w.heap.size + 1, 1, none⟩ (.int .u8 (e.o : Int))).setCell ⟨w.heap.size + 1, 2, none⟩ (.int .u8 (e.t : Int))).setCell ⟨w.heap.size + 1, 3, none⟩ (.int .i32 e.n)).setCell ⟨w.heap.size + 1, 4, none⟩ (.string S)).setCell ⟨w.heap.size + 1, 5, none⟩ (.slice P j d) = X at *
        obtain ⟨y0, y1, y2, y3, y4, y5⟩ := box6 KQ.out.1
        refine bodyPost_ret (v := .agg #[.int .u8 (e.k : Int), .int .u8 (e.o : Int), .int .u8 (e.t : Int), .int .i32 e.n, .string S, .slice P j d]) (by simp [results, Tryz.results26, go_sem, y0, y1, y2, y3, y4, y5]) rfl ⟨P, d, ?_, ?_, HOK.out, KQ.out.2.2⟩
        · show _ = Ending.returned (.agg #[_, _, _, _, .string (strOf e.s), .slice P (L14.foldL (rho m) (sig m) (tau m) e.l).length d])
          rw [HLN.out, HSS.out]
          rfl
        · have := KQ.out.2.1
          rw [H.out.2, HTN.out] at this
          exact this
end Go.Proofs.YtimbiobonigdmaaGreatDoor
