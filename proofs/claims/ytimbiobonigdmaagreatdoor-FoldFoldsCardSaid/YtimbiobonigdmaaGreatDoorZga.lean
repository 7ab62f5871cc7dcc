/- The laws: FoldConst and FoldFolds. -/
import Derived.Test.YtimbiobonigdmaaGreatDoorGot
import Derived.Test.YtimbiobonigdmaaGreatDoorZcf
import Derived.Test.YtimbiobonigdmaaGreatDoorM22
import Derived.Test.YtimbiobonigdmaaGreatDoorM20
set_option linter.unusedVariables false
set_option linter.unusedSimpArgs false
namespace Go.Proofs.YtimbiobonigdmaaGreatDoor
open Go Go.RowKit L8 L10 L14

theorem fold_is {X : World} {e : Ex} {A E : Option Addr} {n c k d : Nat} {l : List Sp} {r : Ex × Int} (h : Ask X e A n c l E k d) (hr : foldX e l.reverse = r) : Calls Tryz.prog 9 #[exV e A n c, .slice E k d] X fun en w' => ∃ B f, en = .returned (.tuple #[exV r.1 B r.1.l.length f, .int .i64 r.2]) ∧ TrR w' B f r.1.l ∧ OKe r.1 ∧ Below X.heap.size X w' := by
  have := h.fold
  rw [hr] at this
  refine Calls.mono this ?_
  rintro en w' ⟨B, f, rfl, t, o, b⟩
  exact ⟨B, f, rfl, t.tr, o, b⟩
theorem const_is {X : World} {e : Ex} {A E : Option Addr} {n c k d : Nat} {l : List Sp} {r : Int × Int} (h : Ask X e A n c l E k d) (hr : constX e l.reverse = r) : Calls Tryz.prog 7 #[exV e A n c, .slice E k d] X fun en w' => en = .returned (.tuple #[.int .i32 r.1, .int .i64 r.2]) ∧ Below X.heap.size X w' := by
  have := h.const
  rw [hr] at this
  exact this
theorem Ask.Rconst {w : World} {e : Ex} {A E : Option Addr} {n c k d : Nat} {l : List Sp} (h : Ask w e A n c l E k d) : Calls Tryz.prog 8 #[exV e A n c, .slice E k d] w (CoR w (constX e l.reverse)) := RConst_any e A n c E k d l w h.tr h.hn h.ok h.sp h.hk h.k6
theorem Ask.Rfold {w : World} {e : Ex} {A E : Option Addr} {n c k d : Nat} {l : List Sp} (h : Ask w e A n c l E k d) : Calls Tryz.prog 10 #[exV e A n c, .slice E k d] w (FoR w (foldX e l.reverse)) := RFold_any e A n c E k d l w h.tr h.hn h.ok h.sp h.hk h.k6
theorem Rfold_is {X : World} {e : Ex} {A E : Option Addr} {n c k d : Nat} {l : List Sp} {r : Ex × Int} (h : Ask X e A n c l E k d) (hr : foldX e l.reverse = r) : Calls Tryz.prog 10 #[exV e A n c, .slice E k d] X fun en w' => ∃ B f, en = .returned (.tuple #[exV r.1 B r.1.l.length f, .int .i64 r.2]) ∧ TrR w' B f r.1.l ∧ OKe r.1 ∧ Below X.heap.size X w' := by
  have := h.Rfold
  rw [hr] at this
  refine Calls.mono this ?_
  rintro en w' ⟨B, f, rfl, t, o, b⟩
  exact ⟨B, f, rfl, t.tr, o, b⟩
theorem Rconst_is {X : World} {e : Ex} {A E : Option Addr} {n c k d : Nat} {l : List Sp} {r : Int × Int} (h : Ask X e A n c l E k d) (hr : constX e l.reverse = r) : Calls Tryz.prog 8 #[exV e A n c, .slice E k d] X fun en w' => en = .returned (.tuple #[.int .i32 r.1, .int .i64 r.2]) ∧ Below X.heap.size X w' := by
  have := h.Rconst
  rw [hr] at this
  exact this
/-- Two trees and an environment. -/
structure AgS (w X : World) (E : Option Addr) (d : Nat) (l : List Sp) (e : Ex) (A : Option Addr) (n c : Nat) (q : Nat) : Prop where
  b : Below w.heap.size w X
  t : T10 X
  sp : SpR X E d l
  tr : TrR X A c e.l
  box : BoxS X q 27 (exC e A n c)
theorem AgS.step {w X Y : World} {E A : Option Addr} {d n c q : Nat} {l : List Sp} {e : Ex} (h : Hid (AgS w X E d l e A n c q)) (b : Below X.heap.size X Y) : AgS w Y E d l e A n c q := ⟨blw h.out.b b, h.out.t.below b, h.out.sp.keep b, h.out.tr.keep b, h.out.box.below b⟩
structure AgT (X : World) (x : Ex) (B : Option Addr) (f q : Nat) : Prop where
  tr : TrR X B f x.l
  box : BoxS X q 27 (exC x B x.l.length f)
theorem AgT.step {X Y : World} {x : Ex} {B : Option Addr} {f q : Nat} (h : Hid (AgT X x B f q)) (b : Below X.heap.size X Y) : Hid (AgT Y x B f q) := Lib.hid ⟨h.out.tr.keep b, h.out.box.below b⟩
set_option maxRecDepth 100000 in
set_option maxHeartbeats 16000000 in
theorem walkFoldConst (e : Ex) (A : Option Addr) (n c : Nat) (hn : e.l.length = n) (ok : OKe e) (E : Option Addr) (k d : Nat) (l : List Sp) (hk : l.length = k) (w : World) (R : TrR w A c e.l) (S : SpR w E d l) (T : T10 w) : Calls Tryz.prog 3 #[exV e A n c, .slice E k d] w fun en w' => en = .returned (.bool true) ∧ Below w.heap.size w w' := by
  have bA := bal (b0 w) (.cells (exC e A n c) 27)
  have J0 : Hid (AgS w (w.alloc (.cells (exC e A n c) 27)) E d l e A n c w.heap.size) := Lib.hid ⟨bA, T.below bA, S.keep bA, R.keep bA, boxS_new w _ _⟩
  have CG := Lib.hid (great_any E k d l _ J0.out.sp hk)
  have HP := box6 J0.out.box
  cases hg : grtX l with
  | true =>
    rw [hg] at CG
    have CW := Lib.hid (awake_any _ J0.out.t)
    have HB := Lib.hid bA
    clear R S T hk hn ok bA J0 hg
    dsimp only [exV, exC] at *
    generalize strOf e.s = SE at *
    obtain ⟨p0, p1, p2, p3, p4, p5⟩ := HP
    go_enter Tryz.func3, Tryz.ntmps3
    go_wp2_with (first
      | (go_at_call 5; (with_reducible refine (CG.out).mono ?_); rintro e1 w1 ⟨rfl, rfl⟩)
      | (go_at_call 6; (with_reducible refine (CW.out).mono ?_); rintro e1 w1 ⟨rfl, b1⟩; have H1 := Lib.hid (blw HB.out b1); clear b1))
    go_ret
    exact ⟨rfl, H1.out⟩
  | false =>
    rw [hg] at CG
    have hk6 : k ≤ 1000000 := by
      unfold grtX at hg
      rw [Bool.or_eq_false_iff] at hg
      have := of_decide_eq_false hg.2
      omega
    obtain ⟨⟨v, z⟩, hv⟩ : ∃ v, constX e l.reverse = v := ⟨_, rfl⟩
    have C1 := Lib.hid fun X (J : AgS w X E d l e A n c w.heap.size) => const_is (Ask.mk (k := k) J.tr hn ok J.sp hk hk6 J.t) hv
    have C2 := Lib.hid fun X (J : AgS w X E d l e A n c w.heap.size) => Rconst_is (Ask.mk (k := k) J.tr hn ok J.sp hk hk6 J.t) hv
    dsimp only at C1 C2
    have CW := Lib.hid fun X (J : AgS w X E d l e A n c w.heap.size) => awake_any X J.t
    have EB := Lib.hid fun X (J : Hid (AgS w X E d l e A n c w.heap.size)) => box6 J.out.box
    clear R S T hk hn ok bA hg hk6 hv
    dsimp only [exV, exC] at *
    generalize strOf e.s = SE at *
    obtain ⟨p0, p1, p2, p3, p4, p5⟩ := HP
    go_enter Tryz.func3, Tryz.ntmps3
    go_wp2_with (first
      | (go_at_call 5; (with_reducible refine (CG.out).mono ?_); rintro e1 w0 ⟨rfl, rfl⟩)
      | (go_at_call 7; (with_reducible refine (C1.out _ J0.out).mono ?_); rintro e1 w1 ⟨rfl, b1⟩; have J1 := Lib.hid (AgS.step J0 b1); clear b1; clear p0 p1 p2 p3 p4 p5; obtain ⟨p0, p1, p2, p3, p4, p5⟩ := EB.out _ J1)
      | (go_at_call 8; (with_reducible refine (C2.out _ J1.out).mono ?_); rintro e1 w2 ⟨rfl, b1⟩; have J2 := Lib.hid (AgS.step J1 b1); clear b1; clear p0 p1 p2 p3 p4 p5; obtain ⟨p0, p1, p2, p3, p4, p5⟩ := EB.out _ J2)
      | (go_at_call 6; (with_reducible refine (CW.out _ J2.out).mono ?_); rintro e1 w3 ⟨rfl, b1⟩; have H3 := Lib.hid (blw J2.out.b b1); clear b1))
    go_ret
    exact ⟨rfl, H3.out⟩
set_option maxRecDepth 100000 in
set_option maxHeartbeats 16000000 in
theorem walkFoldFolds (e : Ex) (A : Option Addr) (n c : Nat) (hn : e.l.length = n) (ok : OKe e) (E : Option Addr) (k d : Nat) (l : List Sp) (hk : l.length = k) (w : World) (R : TrR w A c e.l) (S : SpR w E d l) (T : T10 w) : Calls Tryz.prog 4 #[exV e A n c, .slice E k d] w fun en w' => en = .returned (.bool true) ∧ Below w.heap.size w w' := by
  have bA := bal (b0 w) (.cells (exC e A n c) 27)
  have J0 : Hid (AgS w (w.alloc (.cells (exC e A n c) 27)) E d l e A n c w.heap.size) := Lib.hid ⟨bA, T.below bA, S.keep bA, R.keep bA, boxS_new w _ _⟩
  have CG := Lib.hid (great_any E k d l _ J0.out.sp hk)
  have HP := box6 J0.out.box
  cases hg : grtX l with
  | true =>
    rw [hg] at CG
    have CW := Lib.hid (awake_any _ J0.out.t)
    have HB := Lib.hid bA
    clear R S T hk hn ok bA J0 hg
    dsimp only [exV, exC] at *
    generalize strOf e.s = SE at *
    obtain ⟨p0, p1, p2, p3, p4, p5⟩ := HP
    go_enter Tryz.func4, Tryz.ntmps4
    go_wp2_with (first
      | (go_at_call 5; (with_reducible refine (CG.out).mono ?_); rintro e1 w1 ⟨rfl, rfl⟩)
      | (go_at_call 6; (with_reducible refine (CW.out).mono ?_); rintro e1 w1 ⟨rfl, b1⟩; have H1 := Lib.hid (blw HB.out b1); clear b1))
    go_ret
    exact ⟨rfl, H1.out⟩
  | false =>
    rw [hg] at CG
    have hk6 : k ≤ 1000000 := by
      unfold grtX at hg
      rw [Bool.or_eq_false_iff] at hg
      have := of_decide_eq_false hg.2
      omega
    obtain ⟨⟨x, z⟩, hx⟩ : ∃ v, foldX e l.reverse = v := ⟨_, rfl⟩
    have F1 := Lib.hid fun X (J : AgS w X E d l e A n c w.heap.size) => fold_is (Ask.mk (k := k) J.tr hn ok J.sp hk hk6 J.t) hx
    have F2 := Lib.hid fun X (J : AgS w X E d l e A n c w.heap.size) => Rfold_is (Ask.mk (k := k) J.tr hn ok J.sp hk hk6 J.t) hx
    dsimp only at F1 F2
    have CS := Lib.hid fun X B f B2 g (t : TrR X B f x.l) (u : TrR X B2 g x.l) => (show Calls Tryz.prog 11 #[exV x B x.l.length f, exV x B2 x.l.length g] X fun en w' => en = .returned (.bool true) ∧ Below X.heap.size X w' by
      have := RSameX_any x x B B2 _ _ f g X t rfl u rfl
      rw [decide_eq_true rfl] at this
      exact this)
    have CW := Lib.hid fun X (J : AgS w X E d l e A n c w.heap.size) => awake_any X J.t
    have NB : Hid (∀ (X : World) (B : Option Addr) (g : Nat), TrR X B g x.l → Hid (AgT (X.alloc (.cells (exC x B x.l.length g) 27)) x B g X.heap.size)) := Lib.hid fun X B g t => Lib.hid ⟨t.keep (bal (b0 X) _), boxS_new X _ _⟩
    have EB := Lib.hid fun X (J : Hid (AgS w X E d l e A n c w.heap.size)) => box6 J.out.box
    have XB := Lib.hid fun X B g q (J : Hid (AgT X x B g q)) => box6 J.out.box
    clear R S T hk hn ok bA hg hk6 hx
    dsimp only [exV, exC] at *
    generalize strOf e.s = SE at *
    generalize strOf x.s = SX at *
    obtain ⟨p0, p1, p2, p3, p4, p5⟩ := HP
    go_enter Tryz.func4, Tryz.ntmps4
    go_wp2_with (first
      | (go_at_call 5; (with_reducible refine (CG.out).mono ?_); rintro e1 w0 ⟨rfl, rfl⟩)
      | (go_at_call 9; (with_reducible refine (F1.out _ J0.out).mono ?_); rintro e1 w1 ⟨B1, g1, rfl, t1, o1, b1⟩; have J1 := Lib.hid (AgS.step J0 (bal b1 (.cells #[.int .u8 (x.k : Int), .int .u8 (x.o : Int), .int .u8 (x.t : Int), .int .i32 x.n, .string SX, .slice B1 x.l.length g1] 27))); have K1 := NB.out w1 B1 g1 t1; clear t1 o1 b1; clear p0 p1 p2 p3 p4 p5; obtain ⟨p0, p1, p2, p3, p4, p5⟩ := EB.out _ J1; obtain ⟨q0, q1, q2, q3, q4, q5⟩ := XB.out _ _ _ _ K1)
      | (go_at_call 10; (with_reducible refine (F2.out _ J1.out).mono ?_); rintro e1 w2 ⟨B2, g2, rfl, t1, o1, b1⟩; have b2 := bal b1 (.cells #[.int .u8 (x.k : Int), .int .u8 (x.o : Int), .int .u8 (x.t : Int), .int .i32 x.n, .string SX, .slice B2 x.l.length g2] 27); have J2 := Lib.hid (AgS.step J1 b2); have K2 := AgT.step K1 b2; have L2 := NB.out w2 B2 g2 t1; clear t1 o1 b1 b2; clear p0 p1 p2 p3 p4 p5 q0 q1 q2 q3 q4 q5; obtain ⟨q0, q1, q2, q3, q4, q5⟩ := XB.out _ _ _ _ K2; obtain ⟨r0, r1, r2, r3, r4, r5⟩ := XB.out _ _ _ _ L2)
      | (go_at_call 11; (with_reducible refine (CS.out _ _ _ _ _ K2.out.tr L2.out.tr).mono ?_); rintro e1 w3 ⟨rfl, b1⟩; have J3 := Lib.hid (AgS.step J2 b1); clear b1; clear q0 q1 q2 q3 q4 q5 r0 r1 r2 r3 r4 r5)
      | (go_at_call 6; (with_reducible refine (CW.out _ J3.out).mono ?_); rintro e1 w4 ⟨rfl, b1⟩; have H4 := Lib.hid (blw J3.out.b b1); clear b1))
    go_ret
    exact ⟨rfl, H4.out⟩
theorem rowFoldConst (a0 : Ex) (A : Option Addr) (c : Nat) (ok : OKe a0) (a1 : Option Addr) (len1 cap1 : Nat) (z1 : List Sx) (w : World) (R : TrR w A c a0.l) (w1 : z1.length = len1 ∧ SxR w a1 cap1 z1) (h : T10 w) : Calls Tryz.prog 3 #[.agg (itC ⟨a0, A, c⟩).toArray, .slice a1 len1 cap1] w fun e w' => e = .returned (.bool true) ∧ Below w.heap.size w w' :=
  walkFoldConst a0 A a0.l.length c rfl ok a1 len1 cap1 (z1.map Sx.x) (by rw [List.length_map]; exact w1.1) w R w1.2.sp h
theorem rowFoldFolds (a0 : Ex) (A : Option Addr) (c : Nat) (ok : OKe a0) (a1 : Option Addr) (len1 cap1 : Nat) (z1 : List Sx) (w : World) (R : TrR w A c a0.l) (w1 : z1.length = len1 ∧ SxR w a1 cap1 z1) (h : T10 w) : Calls Tryz.prog 4 #[.agg (itC ⟨a0, A, c⟩).toArray, .slice a1 len1 cap1] w fun e w' => e = .returned (.bool true) ∧ Below w.heap.size w w' :=
  walkFoldFolds a0 A a0.l.length c rfl ok a1 len1 cap1 (z1.map Sx.x) (by rw [List.length_map]; exact w1.1) w R w1.2.sp h
end Go.Proofs.YtimbiobonigdmaaGreatDoor
