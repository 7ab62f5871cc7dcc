/- The reference: Const and Fold; the laws FoldConst and FoldFolds. -/
import Derived.Test.YtimbiobonigdmaaGreatDoorZfp
import Derived.Test.YtimbiobonigdmaaGreatDoorZvs
import Derived.Test.YtimbiobonigdmaaGreatDoorM17
import Derived.Test.YtimbiobonigdmaaGreatDoorM20
import Derived.Test.YtimbiobonigdmaaGreatDoorM22
set_option linter.unusedVariables false
set_option linter.unusedSimpArgs false
namespace Go.Proofs.YtimbiobonigdmaaGreatDoor
open Go Go.RowKit Go.Shelf L8 L10 L14
attribute [local go_sem] Oper.semAt_some

set_option maxRecDepth 100000 in
set_option maxHeartbeats 16000000 in
theorem RConst_any (e : Ex) (A : Option Addr) (n c : Nat) (E : Option Addr) (k d : Nat) (l : List Sp) (w : World) (R : TrR w A c e.l) (hn : e.l.length = n) (ok : OKe e) (S : SpR w E d l) (hk : l.length = k) (hk6 : k ≤ 1000000) :
    Calls Tryz.prog 8 #[exV e A n c, .slice E k d] w (CoR w (constX e l.reverse)) := by
  have bA := bal (b0 w) (.cells (exC e A n c) 27)
  have CM := RMayX_any e A n c _ (R.keep bA) hn ok
  have HP := boxS_new w 27 (exC e A n c)
  cases hm : mayE e with
  | false =>
    rw [constX_bad _ hm]
    rw [hm] at CM
    have CM := Lib.hid CM
    have HP := box6 HP
    have HA := Lib.hid bA
    unfold CoR
    clear R hn ok S hm bA
    dsimp only [exV, exC] at *
    generalize strOf e.s = SE at *
    obtain ⟨p0, p1, p2, p3, p4, p5⟩ := HP
    go_enter Tryz.func8, Tryz.ntmps8
    go_wp2_with (go_at_call 23; (with_reducible refine (CM.out).mono ?_); rintro e1 w1 ⟨rfl, b1⟩; have H1 := Lib.hid (blw HA.out b1); clear b1)
    refine bodyPost_ret (v := .tuple #[.int .i32 0, .int .i64 2]) (by simp [results, Tryz.results8, go_sem]) rfl ⟨rfl, H1.out⟩
  | true =>
    rw [hm] at CM
    have CM := Lib.hid CM
    have CN := Lib.hid fun X (bX : Below w.heap.size w X) => Rvalues_any E k d l hk hk6 X (S.keep bX)
    have HV := Lib.hid fun X (bX : Below w.heap.size w X) K kc (KN : KnR X K kc (valsL l k)) => (show Calls Tryz.prog 24 #[exV e A n c, .slice E k d, .int .i64 (k : Int), .slice K k kc] X (VlR X (vOf (mgS l.reverse) e)) by
      have := Rval14_any hk (Nat.le_refl _) (Nat.le_refl _) e (may_parts.1 hm).1 A n c X (R.keep bX) hn ok (S.keep bX) KN
      rw [← hk, pref_all] at this
      rw [← hk]
      exact this)
    have HA := Lib.hid bA
    have HP2 := Lib.hid fun X (bX : Below (w.alloc (.cells (exC e A n c) 27)).heap.size (w.alloc (.cells (exC e A n c) 27)) X) => box6 (HP.below bX)
    have HP := box6 HP
    have HC1 := Lib.hid fun hv => constX_none (r := l.reverse) hm hv
    have HC2 := Lib.hid fun v hv => constX_some (r := l.reverse) (v := v) hm hv
    unfold VlR apR at HV
    clear R hn ok S bA hm
    generalize vOf (mgS l.reverse) e = v at *
    generalize constX e l.reverse = r at *
    dsimp only [exV, exC] at *
    generalize strOf e.s = SE at *
    obtain ⟨p0, p1, p2, p3, p4, p5⟩ := HP
    unfold CoR
    cases v with
    | none =>
      have hr := HC1.out rfl
      subst hr
      dsimp only [Option.getD, Option.isSome] at HV
      clear HC1 HC2
      go_enter Tryz.func8, Tryz.ntmps8
      go_wp2_with (go_at_call 23; (with_reducible refine (CM.out).mono ?_); rintro e1 w1 ⟨rfl, b1⟩; have H1 := Lib.hid (show Below _ _ w1.drew from bdrew b1 1); have C1 := Lib.hid (CN.out _ (blw HA.out H1.out)); clear p0 p1 p2 p3 p4 p5; obtain ⟨p0, p1, p2, p3, p4, p5⟩ := HP2.out _ b1; clear b1)
      go_region_law (first
        | (go_simp; go_at_call 25; (with_reducible refine (C1.out).mono ?_); rintro e2 w2 ⟨K, kc, rfl, KN, b2⟩; have H2 := Lib.hid (blw H1.out b2); have C2 := Lib.hid (HV.out w2 (blw HA.out H2.out) K kc KN); clear KN b2; obtain ⟨q0, q1, q2, q3, q4, q5⟩ := HP2.out _ H2.out)
        | (go_simp; go_at_call 24; (with_reducible refine (C2.out).mono ?_); rintro e2 w3 ⟨rfl, b3⟩; have H3 := Lib.hid (blw H2.out b3); clear b3))
      all_goals
        go_wp2
        refine bodyPost_ret (v := .tuple #[.int .i32 0, .int .i64 140]) (by simp [results, Tryz.results8, go_sem]) rfl ⟨rfl, blw HA.out H3.out⟩
    | some v =>
      have hr := HC2.out v rfl
      subst hr
      dsimp only [Option.getD, Option.isSome] at HV
      clear HC1 HC2
      go_enter Tryz.func8, Tryz.ntmps8
      go_wp2_with (go_at_call 23; (with_reducible refine (CM.out).mono ?_); rintro e1 w1 ⟨rfl, b1⟩; have H1 := Lib.hid (show Below _ _ w1.drew from bdrew b1 1); have C1 := Lib.hid (CN.out _ (blw HA.out H1.out)); clear p0 p1 p2 p3 p4 p5; obtain ⟨p0, p1, p2, p3, p4, p5⟩ := HP2.out _ b1; clear b1)
      go_region_law (first
        | (go_simp; go_at_call 25; (with_reducible refine (C1.out).mono ?_); rintro e2 w2 ⟨K, kc, rfl, KN, b2⟩; have H2 := Lib.hid (blw H1.out b2); have C2 := Lib.hid (HV.out w2 (blw HA.out H2.out) K kc KN); clear KN b2; obtain ⟨q0, q1, q2, q3, q4, q5⟩ := HP2.out _ H2.out)
        | (go_simp; go_at_call 24; (with_reducible refine (C2.out).mono ?_); rintro e2 w3 ⟨rfl, b3⟩; have H3 := Lib.hid (blw H2.out b3); clear b3))
      all_goals
        go_wp2
        refine bodyPost_ret (v := .tuple #[.int .i32 v, .int .i64 0]) (by simp [results, Tryz.results8, go_sem]) rfl ⟨rfl, blw HA.out H3.out⟩
set_option maxRecDepth 100000 in
set_option maxHeartbeats 16000000 in
theorem RFold_any (e : Ex) (A : Option Addr) (n c : Nat) (E : Option Addr) (k d : Nat) (l : List Sp) (w : World) (R : TrR w A c e.l) (hn : e.l.length = n) (ok : OKe e) (S : SpR w E d l) (hk : l.length = k) (hk6 : k ≤ 1000000) :
    Calls Tryz.prog 10 #[exV e A n c, .slice E k d] w (FoR w (foldX e l.reverse)) := by
  have HN := Lib.hid (FdS.new w (exC e A n c))
  have CM := RMayX_any e A n c _ (R.keep HN.out.bel) hn ok
  have HP := Lib.hid (box6 HN.out.box)
  unfold FoR
  cases hm : mayE e with
  | false =>
    rw [foldX_bad _ hm]
    rw [hm] at CM
    have CM := Lib.hid CM
    clear R hn ok S hm
    dsimp only [exV, exC] at *
    generalize hS : strOf e0.s = S0 at *
    obtain rfl : S0 = ⟨#[]⟩ := hS.symm
    clear hS
    generalize strOf e.s = SE at *
    unfold zeroC at HN
    unfold zeroC at HP
    unfold zeroC at CM
    obtain ⟨p0, p1, p2, p3, p4, p5⟩ := HP.out
    go_enter Tryz.func10, Tryz.ntmps10
    go_wp2_with (go_at_call 23; (with_reducible refine (CM.out).mono ?_); rintro e1 w1 ⟨rfl, b1⟩; have H1 := Lib.hid (HN.out.step b1); clear b1; obtain ⟨r0, r1, r2, r3, r4, r5⟩ := box6 H1.out.res; obtain ⟨f0, f1, f2, f3, f4, f5⟩ := box6f H1.out.res)
    have KQ := Lib.hid (H1.out.fin (.int .u8 0) (.int .u8 0) (.int .u8 0) (.int .i32 0) (.string ⟨#[]⟩) (.slice none 0 0))
    unfold set6 at KQ
    clear r0 r1 r2 r3 r4 r5 f0 f1 f2 f3 f4 f5
    generalize (((((w1.setCell ⟨w.heap.size + 1, 0, none⟩ (.int .u8 0)).setCell ⟨w.heap.size + 1, 1, none⟩ (.int .u8 0)).setCell ⟨w.heap.size + 1, 2, none⟩ (.int .u8 0)).setCell ⟨w.heap.size + 1, 3, none⟩ (.int .i32 0)).setCell ⟨w.heap.size + 1, 4, none⟩ (.string ⟨#[]⟩)).setCell ⟨w.heap.size + 1, 5, none⟩ (.slice none 0 0) = X at *
    obtain ⟨y0, y1, y2, y3, y4, y5⟩ := box6 KQ.out.1
    refine bodyPost_ret (v := .tuple #[.agg #[.int .u8 0, .int .u8 0, .int .u8 0, .int .i32 0, .string ⟨#[]⟩, .slice none 0 0], .int .i64 2]) (by simp [results, Tryz.results10, go_sem, y0, y1, y2, y3, y4, y5]) rfl ⟨none, 0, rfl, TrN.nil _ _, ok_e0, KQ.out.2⟩
  | true =>
    rw [foldX_ok _ hm]
    rw [hm] at CM
    have CM := Lib.hid CM
    have CN := Lib.hid fun X (bX : Below w.heap.size w X) => Rvalues_any E k d l hk hk6 X (S.keep bX)
    have HV := Lib.hid fun X (bX : Below w.heap.size w X) K kc (KN : KnR X K kc (valsL l k)) => (show Calls Tryz.prog 27 #[exV e A n c, .slice E k d, .slice K k kc] X (FdR X (fOf (mgS l.reverse) e)) by
      have := Rfold_any hk (Nat.le_refl _) e (may_parts.1 hm).1 A n c X (R.keep bX) hn ok (S.keep bX) KN
      rw [← hk, pref_all] at this
      rw [← hk]
      exact this)
    unfold FdR at HV
    clear R hn ok S hm
    generalize fOf (mgS l.reverse) e = f at *
    dsimp only [exV, exC] at *
    generalize strOf e.s = SE at *
    obtain ⟨SF, hSF⟩ : ∃ SF, strOf f.s = SF := ⟨_, rfl⟩
    rw [hSF] at HV ⊢
    clear hSF
    unfold zeroC at HN
    unfold zeroC at HP
    unfold zeroC at CM
    obtain ⟨p0, p1, p2, p3, p4, p5⟩ := HP.out
    go_enter Tryz.func10, Tryz.ntmps10
    go_wp2_with (go_at_call 23; (with_reducible refine (CM.out).mono ?_); rintro e1 w1 ⟨rfl, b1⟩; have H0 := HN.out.step b1; have H1 := Lib.hid (H0.step (show Below w1.heap.size w1 w1.drew from bdrew (b0 w1) 1)); have C1 := Lib.hid (CN.out _ H1.out.bel); clear p0 p1 p2 p3 p4 p5; obtain ⟨p0, p1, p2, p3, p4, p5⟩ := box6 H0.box; clear b1 H0)
    go_region_law (first
      | (go_simp; go_at_call 25; (with_reducible refine (C1.out).mono ?_); rintro e2 w2 ⟨K, kc, rfl, KN, b2⟩; have H2 := Lib.hid (H1.out.step b2); have C2 := Lib.hid (HV.out w2 H2.out.bel K kc KN); clear KN b2; obtain ⟨q0, q1, q2, q3, q4, q5⟩ := box6 H2.out.box)
      | (go_simp; go_at_call 27; (with_reducible refine (C2.out).mono ?_); rintro e2 w3 ⟨Af, cf, rfl, tf, okf, b3⟩; have H3 := Lib.hid (H2.out.step b3); have HT := Lib.hid (tf.mono fun k _ hk => (by have := H2.out.lt; omega : w.heap.size + 2 ≤ k)); have HO := Lib.hid okf; obtain ⟨r0, r1, r2, r3, r4, r5⟩ := box6 H3.out.res; obtain ⟨f0, f1, f2, f3, f4, f5⟩ := box6f H3.out.res; clear b3 tf okf))
    all_goals
      have KQ := Lib.hid (H3.out.fin (.int .u8 (f.k : Int)) (.int .u8 (f.o : Int)) (.int .u8 (f.t : Int)) (.int .i32 f.n) (.string SF) (.slice Af f.l.length cf))
      have KT := Lib.hid (HT.out.fr (fr_set6 w3 (w.heap.size + 1) (.int .u8 (f.k : Int)) (.int .u8 (f.o : Int)) (.int .u8 (f.t : Int)) (.int .i32 f.n) (.string SF) (.slice Af f.l.length cf)) fun k _ hk e => by omega)
      unfold set6 at KQ KT
      go_wp2
      clear q0 q1 q2 q3 q4 q5 r0 r1 r2 r3 r4 r5 f0 f1 f2 f3 f4 f5
      generalize (((((w3.setCell ⟨w.heap.size + 1, 0, none⟩ (.int .u8 (f.k : Int))).setCell ⟨w.heap.size + 1, 1, none⟩ (.int .u8 (f.o : Int))).setCell ⟨w.heap.size + 1, 2, none⟩ (.int .u8 (f.t : Int))).setCell ⟨w.heap.size + 1, 3, none⟩ (.int .i32 f.n)).setCell ⟨w.heap.size + 1, 4, none⟩ (.string SF)).setCell ⟨w.heap.size + 1, 5, none⟩ (.slice Af f.l.length cf) = X at *
      obtain ⟨y0, y1, y2, y3, y4, y5⟩ := box6 KQ.out.1
      refine bodyPost_ret (v := .tuple #[.agg #[.int .u8 (f.k : Int), .int .u8 (f.o : Int), .int .u8 (f.t : Int), .int .i32 f.n, .string SF, .slice Af f.l.length cf], .int .i64 0]) (by simp [results, Tryz.results10, go_sem, y0, y1, y2, y3, y4, y5]) rfl ⟨Af, cf, rfl, KT.out.mono fun k _ hk => (by omega), HO.out, KQ.out.2⟩
end Go.Proofs.YtimbiobonigdmaaGreatDoor
