/- The program's reader of tokens: an operand, and no operator behind it. -/
import Derived.Test.YtplcmcealeeppaaGreatDoorM07
set_option linter.unusedVariables false
set_option linter.unusedSimpArgs false
set_option linter.unusedVariables false
set_option linter.unusedSimpArgs false
namespace Go.Proofs.YtplcmcealeeppaaGreatDoor
open Go Go.RowKit L8 L10

set_option maxRecDepth 100000 in
set_option maxHeartbeats 1000000 in
theorem rdyad_err {w : World} {b m c p o : Nat} {A : Option Addr} {l : List Tk} {T : Nat → Res} {er : Int} (h : Rdr w b A m c l p o) (hp : p ≤ m) (HT : RdOk b A m c l 70 T o) (hr : T p = .error er) : Calls Tryz.prog 72 #[.pointer (some ⟨b, 0, none⟩)] w fun en w' => RdX w w' b A m c o (.error er) en := by
  have hR := (Rs.new h).below (bal (b0 w) (.cells zC 27))
  have C1 := Lib.hid (HT _ p (hR.rdr h) hp)
  have HG : Hid (∀ W : World, (w.alloc (.cells zC 27)).grownBy W (some b) → w.grownBy W (some b)) := Lib.hid fun W g => g_trans hR.grw g
  rw [hr] at C1
  clear h hp HT hr hR
  unfold zC at *
  unfold RdX FailE at *
  dsimp only at *
  go_enter Tryz.func72, Tryz.ntmps72
  go_wp2_with (go_at_call 70; (with_reducible refine (C1.out).mono ?_); rintro e1 W1 ⟨rfl, k⟩; have H1 := Lib.hid (HG.out W1 k); clear k)
  exact ⟨rfl, rfl, H1.out⟩
set_option maxRecDepth 100000 in
set_option maxHeartbeats 1000000 in
theorem rdyad_one {w : World} {b m c p o q : Nat} {A : Option Addr} {l : List Tk} {T : Nat → Res} {y : Ex} (h : Rdr w b A m c l p o) (hp : p ≤ m) (HT : RdOk b A m c l 70 T o) (hr : T p = .ok (y, q)) (hf : findO (atB l q) 1 22 = 0) : Calls Tryz.prog 72 #[.pointer (some ⟨b, 0, none⟩)] w fun en w' => RdX w w' b A m c o (.ok (y, q)) en := by
  have hb := h.box.lt
  have hR := (Rs.new h).below (bal (b0 w) (.cells zC 27))
  have hsV : (w.alloc (.cells zC 27)).heap.size = w.heap.size + 1 := World.size_alloc _ _
  have C1 := Lib.hid (HT _ p (hR.rdr h) hp)
  rw [hr] at C1
  have HK : Hid (∀ (W1 : World) (B : Option Addr) (d : Nat), TrN W1 (fun k => (w.alloc (.cells zC 27)).heap.size ≤ k) B d y.l → Rs (w.alloc (.cells zC 27)) W1 b A m c q o → q ≤ m → Calls Tryz.prog 71 #[.pointer (some ⟨b, 0, none⟩), .int .u8 1, .int .u8 22] (W1.alloc (.cells (exC y B y.l.length d) 27)) fun en w' => en = .returned (.int .u8 0) ∧ BoxS w' w.heap.size 27 zC ∧ BoxS w' W1.heap.size 27 (exC y B y.l.length d) ∧ Rs w w' b A m c q o ∧ TrN w' (fun k => w.heap.size + 1 ≤ k) B d y.l) := Lib.hid fun W1 B d t k hq => by
    have k2 := (hR.step k).below (bal (b0 W1) (.cells (exC y B y.l.length d) 27))
    have hs := k.grw.size
    have := roper_any (a := 1) (z := 22) (n := 22) (k2.rdr h) hq (by omega) (by omega) (by omega)
    rw [hf, if_pos rfl] at this
    refine this.mono fun en w' ⟨e, k3⟩ => ⟨e, k3.kept ((k.kept (boxS_new w _ zC) (by omega)).below (bal (b0 W1) _)) (by omega), k3.kept (boxS_new W1 _ _) (by omega), k2.step k3, ?_⟩
    rw [hsV] at t
    exact (t.keep (bal (b0 W1) _)).grow k3.grw fun j hj e => by injection e with e; omega
  have HF := Lib.hid (fun (W : World) (d : Nat) (B : Option Addr) (k : Rs w W b A m c q o) (hx : BoxS W w.heap.size 27 zC) (R : TrN W (fun k => w.heap.size + 1 ≤ k) B d y.l) => fin6 (n := y.l.length) k hb hx R)
  clear h hp HT hr hR hsV hf hb
  unfold zC set6 at *
  unfold RdX exV exC at *
  dsimp only at *
  generalize hS5 : strOf y.s = S5 at *
  have HS5 := Lib.hid hS5
  clear hS5
  go_enter Tryz.func72, Tryz.ntmps72
  go_wp2_with (first
    | (go_at_call 70; (with_reducible refine (C1.out).mono ?_); rintro e1 W1 ⟨B, d, rfl, t, ok, k, hq⟩; have H1 := Lib.hid (HK.out W1 B d t k hq); have H4 := Lib.hid (And.intro ok hq); clear t ok k hq)
    | (go_at_call 71; (with_reducible refine (H1.out).mono ?_); rintro e2 W3 ⟨rfl, k1, k2, k3, k4⟩; have H2 := Lib.hid (And.intro k1 (And.intro k2 (And.intro k3 k4))); clear k1 k2 k3 k4; obtain ⟨x0, x1, x2, x3, x4, x5⟩ := box6 H2.out.1; obtain ⟨f0, f1, f2, f3, f4, f5⟩ := box6f H2.out.1; obtain ⟨y0, y1, y2, y3, y4, y5⟩ := box6 H2.out.2.1))
  clear x0 x1 x2 x3 x4 x5 f0 f1 f2 f3 f4 f5 y0 y1 y2 y3 y4 y5
  have H3 := Lib.hid (HF.out W3 d B H2.out.2.2.1 H2.out.1 H2.out.2.2.2)
  generalize (((((W3.setCell ⟨w.heap.size, 0, none⟩ (.int .u8 (y.k : Int))).setCell ⟨w.heap.size, 1, none⟩ (.int .u8 (y.o : Int))).setCell ⟨w.heap.size, 2, none⟩ (.int .u8 (y.t : Int))).setCell ⟨w.heap.size, 3, none⟩ (.int .i32 y.n)).setCell ⟨w.heap.size, 4, none⟩ (.string S5)).setCell ⟨w.heap.size, 5, none⟩ (.slice B y.l.length d) = X5 at *
  obtain ⟨y0, y1, y2, y3, y4, y5⟩ := box6 H3.out.1
  refine bodyPost_ret (v := .agg #[.int .u8 (y.k : Int), .int .u8 (y.o : Int), .int .u8 (y.t : Int), .int .i32 y.n, .string S5, .slice B y.l.length d]) (by simp [results, Tryz.results72, go_sem, y0, y1, y2, y3, y4, y5]) rfl ⟨B, d, rfl, H3.out.2.2, H4.out.1, H3.out.2.1, H4.out.2⟩
end Go.Proofs.YtplcmcealeeppaaGreatDoor
/- The program's reader of tokens: an operand, an operator, an operand. -/
set_option linter.unusedVariables false
set_option linter.unusedSimpArgs false
namespace Go.Proofs.YtplcmcealeeppaaGreatDoor
open Go Go.RowKit L8 L10

def two (y z : Ex) (B : Option Addr) (d : Nat) (C : Option Addr) (e : Nat) : Array Value := #[.int .u8 (y.k : Int), .int .u8 (y.o : Int), .int .u8 (y.t : Int), .int .i32 y.n, .string (strOf y.s), .slice B y.l.length d, .int .u8 (z.k : Int), .int .u8 (z.o : Int), .int .u8 (z.t : Int), .int .i32 z.n, .string (strOf z.s), .slice C z.l.length e]
theorem TrN.two {W : World} {N : Nat → Prop} {g d e : Nat} {y z : Ex} {B C : Option Addr} (h : BoxS W g 27 (two y z B d C e)) (ok : OKe y) (ok2 : OKe z) (hN : N g) (t : TrN W N B d y.l) (t2 : TrN W N C e z.l) : TrN W N (some ⟨g, 0, none⟩) 2 [y, z] := by
  refine .mk (fun j => if j = 0 then B else C) (fun j => if j = 0 then d else e) (Nat.le_refl _) (by simp [maxLen]) (fun j hj => ?_) (fun j hj => ?_) (fun j hj => ?_)
  all_goals (have hj2 : j < 2 := hj; rcases (show j = 0 ∨ j = 1 by omega) with rfl | rfl)
  · exact ok
  · exact ok2
  · exact ⟨_, rfl, hN, (h.cell 0).trans rfl, (h.cell 1).trans rfl, (h.cell 2).trans rfl, (h.cell 3).trans rfl, (h.cell 4).trans rfl, (h.cell 5).trans rfl⟩
  · exact ⟨_, rfl, hN, (h.cell 6).trans rfl, (h.cell 7).trans rfl, (h.cell 8).trans rfl, (h.cell 9).trans rfl, (h.cell 10).trans rfl, (h.cell 11).trans rfl⟩
  · exact t
  · exact t2
set_option maxRecDepth 100000 in
set_option maxHeartbeats 2000000 in
theorem rdyad_two {w : World} {b m c p o q : Nat} {A : Option Addr} {l : List Tk} {T : Nat → Res} {y : Ex} (h : Rdr w b A m c l p o) (hp : p ≤ m) (HT : RdOk b A m c l 70 T o) (hr : T p = .ok (y, q)) (hf : findO (atB l q) 1 22 ≠ 0) : Calls Tryz.prog 72 #[.pointer (some ⟨b, 0, none⟩)] w fun en w' => RdX w w' b A m c o (wrapF (T (q + 1)) fun z => .mk 7 (findO (atB l q) 1 22) 0 0 [] [y, z]) en := by
  have hb := h.box.lt
  have hR := (Rs.new h).below (bal (b0 w) (.cells zC 27))
  have hsV : (w.alloc (.cells zC 27)).heap.size = w.heap.size + 1 := World.size_alloc _ _
  have C1 := Lib.hid (HT _ p (hR.rdr h) hp)
  rw [hr] at C1
  have hfs := find_some (t := atB l q) (a := 1) (n := 22) (by omega) rfl hf
  have hq1 : q + 1 ≤ m := by
    have := at_lt (l := l) (i := q) (fun e => hf (by rw [e]; exact find_z))
    have := h.len
    omega
  have HK : Hid (∀ (W1 : World) (B : Option Addr) (d : Nat), TrN W1 (fun k => (w.alloc (.cells zC 27)).heap.size ≤ k) B d y.l → Rs (w.alloc (.cells zC 27)) W1 b A m c q o → q ≤ m → Calls Tryz.prog 71 #[.pointer (some ⟨b, 0, none⟩), .int .u8 1, .int .u8 22] (W1.alloc (.cells (exC y B y.l.length d) 27)) fun en w' => en = .returned (.int .u8 ((findO (atB l q) 1 22 : Nat) : Int)) ∧ BoxS w' w.heap.size 27 zC ∧ BoxS w' W1.heap.size 27 (exC y B y.l.length d) ∧ Rs w w' b A m c (q + 1) o ∧ TrN w' (fun k => w.heap.size + 1 ≤ k) B d y.l ∧ w.heap.size + 1 ≤ W1.heap.size) := Lib.hid fun W1 B d t k hq => by
    have k2 := (hR.step k).below (bal (b0 W1) (.cells (exC y B y.l.length d) 27))
    have hs := k.grw.size
    have := roper_any (a := 1) (z := 22) (n := 22) (k2.rdr h) hq (by omega) (by omega) (by omega)
    rw [if_neg hf] at this
    refine this.mono fun en w' ⟨e, k3⟩ => ⟨e, k3.kept ((k.kept (boxS_new w _ zC) (by omega)).below (bal (b0 W1) _)) (by omega), k3.kept (boxS_new W1 _ _) (by omega), k2.step k3, ?_, by omega⟩
    rw [hsV] at t
    exact (t.keep (bal (b0 W1) _)).grow k3.grw fun j hj e => by injection e with e; omega
  have C2 := Lib.hid (fun (W : World) (k : Rs w W b A m c (q + 1) o) => HT W (q + 1) (k.rdr h) hq1)
  have HB := Lib.hid hb
  have HFs := Lib.hid hfs
  have hf0 : (((findO (atB l q) 1 22 : Nat) : Int) == 0) = false := by
    have : ¬ ((findO (atB l q) 1 22 : Nat) : Int) = 0 := by omega
    simp only [beq_eq_false_iff_ne]
    exact this
  clear h hp HT hr hR hsV hf hb hfs hq1
  generalize T (q + 1) = r at *
  generalize findO (atB l q) 1 22 = F at *
  unfold zC at *
  simp only [exC] at *
  go_enter Tryz.func72, Tryz.ntmps72
  go_wp2_with (first
    | (go_at_call 70; (with_reducible refine (C1.out).mono ?_); rintro e1 W1 ⟨B, d, k1, t, ok, k, hq⟩; unfold exV at k1; subst k1; have H1 := Lib.hid (HK.out W1 B d t k hq); have H4 := Lib.hid ok; clear t ok k hq)
    | (go_at_call 71; (with_reducible refine (H1.out).mono ?_); rintro e2 W3 ⟨rfl, k1, k2, k3, k4, k5⟩; have H2 := Lib.hid (And.intro k1 (And.intro k2 (And.intro k3 (And.intro k4 k5)))); clear k1 k2 k3 k4 k5))
  have bD := Lib.hid (show Below W3.heap.size W3 W3.drew from bdrew (b0 W3) 1)
  have HD := Lib.hid (And.intro (H2.out.2.2.1.below bD.out) (And.intro (H2.out.1.below bD.out) (And.intro (H2.out.2.1.below bD.out) (H2.out.2.2.2.1.keep bD.out))))
  obtain ⟨u0, u1, u2, u3, u4, u5⟩ := box6 H2.out.2.1
  obtain ⟨v0, v1, v2, v3, v4, v5⟩ := box6 HD.out.2.2.1
  go_region_law (first | (go_simp; go_at_call 70; (with_reducible refine (C2.out _ HD.out.1).mono ?_); rintro e3 W4 k; rcases r with er | ⟨z, q2⟩; (have k2 := k.1; subst k2; have H5 := Lib.hid (g_trans HD.out.1.grw k.2); clear k; (try go_simp); exact ⟨rfl, rfl, H5.out⟩); obtain ⟨C, e, k1, t, ok, k, hq⟩ := k; unfold exV at k1; subst k1; have H5 := Lib.hid (And.intro k (And.intro t (And.intro ok hq))); obtain ⟨s0, s1, s2, s3, s4, s5⟩ := box6 (HD.out.2.2.1.kept k.grw (fun e => by injection e with e; have := HB.out; have := H2.out.2.2.2.2; omega)); have H6 := Lib.hid ((HD.out.2.1.kept k.grw (fun e => by injection e with e; have := HB.out; omega)).below (bal (b0 W4) (.cells (two y z B d C e) 27))); unfold two at H6; obtain ⟨x0, x1, x2, x3, x4, x5⟩ := box6 H6.out; obtain ⟨f0, f1, f2, f3, f4, f5⟩ := box6f H6.out; clear k t ok hq))
  all_goals (
    go_wp2
    clear x0 x1 x2 x3 x4 x5 f0 f1 f2 f3 f4 f5 u0 u1 u2 u3 u4 u5 v0 v1 v2 v3 v4 v5 s0 s1 s2 s3 s4 s5
    have hb := HB.out
    have h3w : w.heap.size + 1 ≤ W3.drew.heap.size := by have := H2.out.2.2.2.2; have := H2.out.2.1.lt; have e : W3.drew.heap.size = W3.heap.size := rfl; omega
    have hs4 : w.heap.size + 1 ≤ W4.heap.size := by have := H5.out.1.grw.size; omega
    have bA := bal (b0 W4) (.cells #[.int .u8 (y.k : Int), .int .u8 (y.o : Int), .int .u8 (y.t : Int), .int .i32 y.n, .string (strOf y.s), .slice B y.l.length d, .int .u8 (z.k : Int), .int .u8 (z.o : Int), .int .u8 (z.t : Int), .int .i32 z.n, .string (strOf z.s), .slice C z.l.length e] 27)
    have hk6 := (HD.out.1.step H5.out.1).below bA
    have ty := HD.out.2.2.2.grow H5.out.1.grw (fun j hj e => by injection e with e; omega)
    have ht6 := TrN.two (N := fun k => w.heap.size + 1 ≤ k) (boxS_new W4 27 (two y z B d C e)) H4.out H5.out.2.2.1 hs4 (ty.keep bA) ((H5.out.2.1.keep bA).mono (fun j _ hj => Nat.le_trans h3w hj))
    have H3 := Lib.hid (fin6 (y := .mk 7 F 0 0 [] [y, z]) (n := 2) hk6 hb H6.out ht6)
    have H7 : Hid (BoxS (set6 (W4.alloc (.cells #[.int .u8 (y.k : Int), .int .u8 (y.o : Int), .int .u8 (y.t : Int), .int .i32 y.n, .string (strOf y.s), .slice B y.l.length d, .int .u8 (z.k : Int), .int .u8 (z.o : Int), .int .u8 (z.t : Int), .int .i32 z.n, .string (strOf z.s), .slice C z.l.length e] 27)) w.heap.size (.int .u8 7) (.int .u8 (F : Int)) (.int .u8 0) (.int .i32 0) (.string ⟨#[]⟩) (.slice (some ⟨W4.heap.size, 0, none⟩) 2 2)) w.heap.size 27 #[.int .u8 7, .int .u8 (F : Int), .int .u8 0, .int .i32 0, .string ⟨#[]⟩, .slice (some ⟨W4.heap.size, 0, none⟩) 2 2] ∧ RdX w (set6 (W4.alloc (.cells #[.int .u8 (y.k : Int), .int .u8 (y.o : Int), .int .u8 (y.t : Int), .int .i32 y.n, .string (strOf y.s), .slice B y.l.length d, .int .u8 (z.k : Int), .int .u8 (z.o : Int), .int .u8 (z.t : Int), .int .i32 z.n, .string (strOf z.s), .slice C z.l.length e] 27)) w.heap.size (.int .u8 7) (.int .u8 (F : Int)) (.int .u8 0) (.int .i32 0) (.string ⟨#[]⟩) (.slice (some ⟨W4.heap.size, 0, none⟩) 2 2)) b A m c o (.ok (.mk 7 F 0 0 [] [y, z], q2)) (.returned (.agg #[.int .u8 7, .int .u8 (F : Int), .int .u8 0, .int .i32 0, .string ⟨#[]⟩, .slice (some ⟨W4.heap.size, 0, none⟩) 2 2]))) := Lib.hid
      ⟨H3.out.1, some ⟨W4.heap.size, 0, none⟩, 2, rfl, H3.out.2.2, ⟨by show 7 < 256; decide, by show F < 256; have := HFs.out; omega, by show 0 < 256; decide, by show (-2147483648 : Int) ≤ 0; decide, by show (0 : Int) ≤ 2147483647; decide, by simp [Ex.s, maxLen]⟩, H3.out.2.1, H5.out.2.2.2⟩
    clear H3 hk6 ht6 bA ty
    unfold set6 at H7
    generalize ((((((W4.alloc (.cells #[.int .u8 (y.k : Int), .int .u8 (y.o : Int), .int .u8 (y.t : Int), .int .i32 y.n, .string (strOf y.s), .slice B y.l.length d, .int .u8 (z.k : Int), .int .u8 (z.o : Int), .int .u8 (z.t : Int), .int .i32 z.n, .string (strOf z.s), .slice C z.l.length e] 27)).setCell ⟨w.heap.size, 0, none⟩ (.int .u8 7)).setCell ⟨w.heap.size, 1, none⟩ (.int .u8 (F : Int))).setCell ⟨w.heap.size, 2, none⟩ (.int .u8 0)).setCell ⟨w.heap.size, 3, none⟩ (.int .i32 0)).setCell ⟨w.heap.size, 4, none⟩ (.string ⟨#[]⟩)).setCell ⟨w.heap.size, 5, none⟩ (.slice (some ⟨W4.heap.size, 0, none⟩) 2 2) = X5 at *
    obtain ⟨y0, y1, y2, y3, y4, y5⟩ := box6 H7.out.1
    refine bodyPost_ret (v := .agg #[.int .u8 7, .int .u8 (F : Int), .int .u8 0, .int .i32 0, .string ⟨#[]⟩, .slice (some ⟨W4.heap.size, 0, none⟩) 2 2]) (by simp [results, Tryz.results72, go_sem, y0, y1, y2, y3, y4, y5]) rfl H7.out.2)
end Go.Proofs.YtplcmcealeeppaaGreatDoor
