/- The laws: FoldAgain. -/
import Derived.Test.YtimbiobonigdmaaDoorGre
import Derived.Test.YtimbiobonigdmaaDoorM16
set_option linter.unusedVariables false
set_option linter.unusedSimpArgs false
namespace Go.Proofs.YtimbiobonigdmaaDoor
open Go Go.RowKit L8 L10 L14

theorem fold_is {X : World} {e : Ex} {A E : Option Addr} {n c k d : Nat} {l : List Sp} {r : Ex × Int} (h : Ask X e A n c l E k d) (hr : foldX e l.reverse = r) : Calls Tryd.prog 13 #[exV e A n c, .slice E k d] X fun en w' => ∃ B f, en = .returned (.tuple #[exV r.1 B r.1.l.length f, .int .i64 r.2]) ∧ TrR w' B f r.1.l ∧ OKe r.1 ∧ Below X.heap.size X w' := by
  have := h.fold
  rw [hr] at this
  refine Calls.mono this ?_
  rintro en w' ⟨B, f, rfl, t, o, b⟩
  exact ⟨B, f, rfl, t.tr, o, b⟩
theorem const_is {X : World} {e : Ex} {A E : Option Addr} {n c k d : Nat} {l : List Sp} {r : Int × Int} (h : Ask X e A n c l E k d) (hr : constX e l.reverse = r) : Calls Tryd.prog 19 #[exV e A n c, .slice E k d] X fun en w' => en = .returned (.tuple #[.int .i32 r.1, .int .i64 r.2]) ∧ Below X.heap.size X w' := by
  have := h.const
  rw [hr] at this
  exact this
theorem fold_bad {X : World} {e : Ex} {A E : Option Addr} {n c k d : Nat} {l : List Sp} (h : Ask X e A n c l E k d) (hm : mayE e = false) : Calls Tryd.prog 13 #[exV e A n c, .slice E k d] X fun en w' => ∃ B f, en = .returned (.tuple #[.agg #[.int .u8 0, .int .u8 0, .int .u8 0, .int .i32 0, .string ⟨#[]⟩, .slice B 0 f], .int .i64 2]) ∧ Below X.heap.size X w' := by
  refine Calls.mono (fold_is h (foldX_bad l.reverse hm)) ?_
  rintro en w' ⟨B, f, rfl, _, _, b⟩
  exact ⟨B, f, rfl, b⟩
/-- Two trees and an environment. -/
structure AgS (w X : World) (E : Option Addr) (d : Nat) (l : List Sp) (e : Ex) (A : Option Addr) (n c : Nat) (q : Nat) : Prop where
  b : Below w.heap.size w X
  t : T10 X
  sp : SpR X E d l
  tr : TrR X A c e.l
  box : BoxS X q 31 (exC e A n c)
theorem AgS.step {w X Y : World} {E A : Option Addr} {d n c q : Nat} {l : List Sp} {e : Ex} (h : Hid (AgS w X E d l e A n c q)) (b : Below X.heap.size X Y) : AgS w Y E d l e A n c q := ⟨blw h.out.b b, h.out.t.below b, h.out.sp.keep b, h.out.tr.keep b, h.out.box.below b⟩
structure AgT (X : World) (x : Ex) (B : Option Addr) (f q : Nat) : Prop where
  tr : TrR X B f x.l
  box : BoxS X q 31 (exC x B x.l.length f)
theorem AgT.step {X Y : World} {x : Ex} {B : Option Addr} {f q : Nat} (h : Hid (AgT X x B f q)) (b : Below X.heap.size X Y) : Hid (AgT Y x B f q) := Lib.hid ⟨h.out.tr.keep b, h.out.box.below b⟩
set_option maxRecDepth 100000 in
set_option maxHeartbeats 16000000 in
theorem walkFoldAgain (e : Ex) (A : Option Addr) (n c : Nat) (hn : e.l.length = n) (ok : OKe e) (E : Option Addr) (k d : Nat) (l : List Sp) (hk : l.length = k) (w : World) (R : TrR w A c e.l) (S : SpR w E d l) (T : T10 w) : Calls Tryd.prog 5 #[exV e A n c, .slice E k d] w fun en w' => en = .returned (.bool true) ∧ Below w.heap.size w w' := by
  have bA := bal (b0 w) (.cells (exC e A n c) 31)
  have J0 : Hid (AgS w (w.alloc (.cells (exC e A n c) 31)) E d l e A n c w.heap.size) := Lib.hid ⟨bA, T.below bA, S.keep bA, R.keep bA, boxS_new w _ _⟩
  have CG := Lib.hid (great_any E k d l _ J0.out.sp hk)
  have HP := box6 J0.out.box
  cases hg : grtX l with
  | true =>
    rw [hg] at CG
    have CW := Lib.hid (awake_any _ J0.out.t)
    have HB := Lib.hid bA
    clear R S T hk hn ok bA J0 hg
    dsimp only [exV, exC] at *
    generalize strOf e.s = SE at *
    obtain ⟨p0, p1, p2, p3, p4, p5⟩ := HP
    go_enter Tryd.func5, Tryd.ntmps5
    go_wp2_with (first
      | (go_at_call 12; (with_reducible refine (CG.out).mono ?_); rintro e1 w1 ⟨rfl, rfl⟩)
      | (go_at_call 11; (with_reducible refine (CW.out).mono ?_); rintro e1 w1 ⟨rfl, b1⟩; have H1 := Lib.hid (blw HB.out b1); clear b1))
    go_ret
    exact ⟨rfl, H1.out⟩
  | false =>
    rw [hg] at CG
    have hk6 : k ≤ 1000000 := by
      unfold grtX at hg
      rw [Bool.or_eq_false_iff] at hg
      have := of_decide_eq_false hg.2
      omega
    cases hm : mayE e with
    | false =>
      have CF := Lib.hid (fold_bad (Ask.mk J0.out.tr hn ok J0.out.sp hk hk6 J0.out.t) hm)
      clear R S T hk hn ok bA hg hm hk6
      have CW := Lib.hid fun X (b : Below w.heap.size w X) (t : T10 X) => awake_any X t
      dsimp only [exV, exC] at *
      generalize strOf e.s = SE at *
      obtain ⟨p0, p1, p2, p3, p4, p5⟩ := HP
      go_enter Tryd.func5, Tryd.ntmps5
      go_wp2_with (first
        | (go_at_call 12; (with_reducible refine (CG.out).mono ?_); rintro e1 w1 ⟨rfl, rfl⟩)
        | (go_at_call 13; (with_reducible refine (CF.out).mono ?_); rintro e1 w1 ⟨B, f, rfl, b1⟩; have b2 := bal b1 (.cells #[.int .u8 0, .int .u8 0, .int .u8 0, .int .i32 0, .string ⟨#[]⟩, .slice B 0 f] 31); have J1 := Lib.hid (AgS.step J0 b2); have CW1 := Lib.hid (CW.out _ J1.out.b J1.out.t); clear b1 b2)
        | (go_at_call 11; (with_reducible refine (CW1.out).mono ?_); rintro e1 w2 ⟨rfl, b1⟩; have H1 := Lib.hid (blw J1.out.b b1); clear b1))
      go_ret
      exact ⟨rfl, H1.out⟩
    | true =>
      obtain ⟨x, f1, mx, f2, cx, lit⟩ := again_plain l.reverse hm
      have F1 := Lib.hid fun X (J : AgS w X E d l e A n c w.heap.size) => fold_is (Ask.mk J.tr hn ok J.sp hk hk6 J.t) f1
      have F2 := Lib.hid fun X (J : AgS w X E d l e A n c w.heap.size) B f (t : TrR X B f x.l) (okx : OKe x) => fold_is (Ask.mk t rfl okx J.sp hk hk6 J.t) f2
      have C1 := Lib.hid fun X (J : AgS w X E d l e A n c w.heap.size) => const_is (Ask.mk J.tr hn ok J.sp hk hk6 J.t) rfl
      have C2 := Lib.hid fun X (J : AgS w X E d l e A n c w.heap.size) B f (t : TrR X B f x.l) (okx : OKe x) => const_is (Ask.mk t rfl okx J.sp hk hk6 J.t) cx
      have CS := Lib.hid fun X B f B2 g (t : TrR X B f x.l) (u : TrR X B2 g x.l) => (show Calls Tryd.prog 20 #[exV x B x.l.length f, exV x B2 x.l.length g] X fun en w' => en = .returned (.bool true) ∧ Below X.heap.size X w' by
        have := RSameX_any x x B B2 _ _ f g X t rfl u rfl
        rw [decide_eq_true rfl] at this
        exact this)
      have CW := Lib.hid fun X (J : AgS w X E d l e A n c w.heap.size) => awake_any X J.t
      obtain ⟨v, hv⟩ : ∃ v, constX e l.reverse = v := ⟨_, rfl⟩
      rw [hv] at C1 C2 lit
      obtain ⟨v1, v2⟩ := v
      dsimp only at C1 C2 lit F1 F2
      have HLit := Lib.hid lit
      clear R S T hk hn ok bA hg hm hk6 f1 f2 cx mx lit hv
      have NB : Hid (∀ (X : World) (B : Option Addr) (g : Nat), TrR X B g x.l → Hid (AgT (X.alloc (.cells (exC x B x.l.length g) 31)) x B g X.heap.size)) := Lib.hid fun X B g t => Lib.hid ⟨t.keep (bal (b0 X) _), boxS_new X _ _⟩
      have EB := Lib.hid fun X (J : Hid (AgS w X E d l e A n c w.heap.size)) => box6 J.out.box
      have XB := Lib.hid fun X B g q (J : Hid (AgT X x B g q)) => box6 J.out.box
      dsimp only [exV, exC] at *
      generalize strOf e.s = SE at *
      generalize strOf x.s = SX at *
      obtain ⟨p0, p1, p2, p3, p4, p5⟩ := HP
      by_cases h0 : v2 = 0
      · subst h0
        by_cases k4 : e.k = 4
        · have hk4 : ((e.k : Int) == 4) = true := by simp [k4]
          clear HLit k4
          go_enter Tryd.func5, Tryd.ntmps5
          go_wp2_with (first
              | (go_at_call 12; (with_reducible refine (CG.out).mono ?_); rintro e1 w0 ⟨rfl, rfl⟩)
              | (go_at_call 13; (with_reducible refine (F1.out _ J0.out).mono ?_); rintro e1 w1 ⟨B1, g1, rfl, t1, o1, b1⟩; have J1 := Lib.hid (AgS.step J0 (bal b1 (.cells #[.int .u8 (x.k : Int), .int .u8 (x.o : Int), .int .u8 (x.t : Int), .int .i32 x.n, .string SX, .slice B1 x.l.length g1] 31))); have K1 := NB.out w1 B1 g1 t1; have O := Lib.hid o1; clear t1 o1 b1; clear p0 p1 p2 p3 p4 p5; obtain ⟨p0, p1, p2, p3, p4, p5⟩ := EB.out _ J1; obtain ⟨q0, q1, q2, q3, q4, q5⟩ := XB.out _ _ _ _ K1)
              | (go_at_call 13; (with_reducible refine (F2.out _ J1.out _ _ K1.out.tr O.out).mono ?_); rintro e1 w2 ⟨B2, g2, rfl, t1, o1, b1⟩; have b2 := bal b1 (.cells #[.int .u8 (x.k : Int), .int .u8 (x.o : Int), .int .u8 (x.t : Int), .int .i32 x.n, .string SX, .slice B2 x.l.length g2] 31); have J2 := Lib.hid (AgS.step J1 b2); have K2 := AgT.step K1 b2; have L2 := NB.out w2 B2 g2 t1; clear t1 o1 b1 b2; clear p0 p1 p2 p3 p4 p5 q0 q1 q2 q3 q4 q5; obtain ⟨p0, p1, p2, p3, p4, p5⟩ := EB.out _ J2; obtain ⟨q0, q1, q2, q3, q4, q5⟩ := XB.out _ _ _ _ K2; obtain ⟨r0, r1, r2, r3, r4, r5⟩ := XB.out _ _ _ _ L2)
              | (go_at_call 19; (with_reducible refine (C1.out _ J2.out).mono ?_); rintro e1 w3 ⟨rfl, b1⟩; have J3 := Lib.hid (AgS.step J2 b1); have K3 := AgT.step K2 b1; have L3 := AgT.step L2 b1; clear b1; clear p0 p1 p2 p3 p4 p5 q0 q1 q2 q3 q4 q5 r0 r1 r2 r3 r4 r5; obtain ⟨p0, p1, p2, p3, p4, p5⟩ := EB.out _ J3; obtain ⟨q0, q1, q2, q3, q4, q5⟩ := XB.out _ _ _ _ K3; obtain ⟨r0, r1, r2, r3, r4, r5⟩ := XB.out _ _ _ _ L3)
              | (go_at_call 19; (with_reducible refine (C2.out _ J3.out _ _ K3.out.tr O.out).mono ?_); rintro e1 w4 ⟨rfl, b1⟩; have J4 := Lib.hid (AgS.step J3 b1); have K4 := AgT.step K3 b1; have L4 := AgT.step L3 b1; clear b1; clear p0 p1 p2 p3 p4 p5 q0 q1 q2 q3 q4 q5 r0 r1 r2 r3 r4 r5; obtain ⟨p0, p1, p2, p3, p4, p5⟩ := EB.out _ J4; obtain ⟨q0, q1, q2, q3, q4, q5⟩ := XB.out _ _ _ _ K4; obtain ⟨r0, r1, r2, r3, r4, r5⟩ := XB.out _ _ _ _ L4)
              | (go_at_call 20; (with_reducible refine (CS.out _ _ _ _ _ K4.out.tr L4.out.tr).mono ?_); rintro e1 w5 ⟨rfl, b1⟩; have J5 := Lib.hid (AgS.step J4 b1); have K5 := AgT.step K4 b1; clear b1; clear p0 p1 p2 p3 p4 p5 q0 q1 q2 q3 q4 q5 r0 r1 r2 r3 r4 r5; obtain ⟨p0, p1, p2, p3, p4, p5⟩ := EB.out _ J5; obtain ⟨q0, q1, q2, q3, q4, q5⟩ := XB.out _ _ _ _ K5)
              | (go_at_call 11; (with_reducible refine (CW.out _ J5.out).mono ?_); rintro e1 w6 ⟨rfl, b1⟩; have H6 := Lib.hid (blw J5.out.b b1); clear b1))
          go_ret
          exact ⟨rfl, H6.out⟩
        · have hk4 : ((e.k : Int) == 4) = false := by simp; omega
          obtain ⟨h3, hxn⟩ := HLit.out rfl k4
          have hxv : (x.n == v1) = true := by simp [hxn]
          clear HLit k4 hxn
          rcases h3 with h | h | h
          · have a1 : ((x.k : Int) == 1) = true := by simp [h]
            clear h
            go_enter Tryd.func5, Tryd.ntmps5
            go_wp2_with (first
                | (go_at_call 12; (with_reducible refine (CG.out).mono ?_); rintro e1 w0 ⟨rfl, rfl⟩)
                | (go_at_call 13; (with_reducible refine (F1.out _ J0.out).mono ?_); rintro e1 w1 ⟨B1, g1, rfl, t1, o1, b1⟩; have J1 := Lib.hid (AgS.step J0 (bal b1 (.cells #[.int .u8 (x.k : Int), .int .u8 (x.o : Int), .int .u8 (x.t : Int), .int .i32 x.n, .string SX, .slice B1 x.l.length g1] 31))); have K1 := NB.out w1 B1 g1 t1; have O := Lib.hid o1; clear t1 o1 b1; clear p0 p1 p2 p3 p4 p5; obtain ⟨p0, p1, p2, p3, p4, p5⟩ := EB.out _ J1; obtain ⟨q0, q1, q2, q3, q4, q5⟩ := XB.out _ _ _ _ K1)
                | (go_at_call 13; (with_reducible refine (F2.out _ J1.out _ _ K1.out.tr O.out).mono ?_); rintro e1 w2 ⟨B2, g2, rfl, t1, o1, b1⟩; have b2 := bal b1 (.cells #[.int .u8 (x.k : Int), .int .u8 (x.o : Int), .int .u8 (x.t : Int), .int .i32 x.n, .string SX, .slice B2 x.l.length g2] 31); have J2 := Lib.hid (AgS.step J1 b2); have K2 := AgT.step K1 b2; have L2 := NB.out w2 B2 g2 t1; clear t1 o1 b1 b2; clear p0 p1 p2 p3 p4 p5 q0 q1 q2 q3 q4 q5; obtain ⟨p0, p1, p2, p3, p4, p5⟩ := EB.out _ J2; obtain ⟨q0, q1, q2, q3, q4, q5⟩ := XB.out _ _ _ _ K2; obtain ⟨r0, r1, r2, r3, r4, r5⟩ := XB.out _ _ _ _ L2)
                | (go_at_call 19; (with_reducible refine (C1.out _ J2.out).mono ?_); rintro e1 w3 ⟨rfl, b1⟩; have J3 := Lib.hid (AgS.step J2 b1); have K3 := AgT.step K2 b1; have L3 := AgT.step L2 b1; clear b1; clear p0 p1 p2 p3 p4 p5 q0 q1 q2 q3 q4 q5 r0 r1 r2 r3 r4 r5; obtain ⟨p0, p1, p2, p3, p4, p5⟩ := EB.out _ J3; obtain ⟨q0, q1, q2, q3, q4, q5⟩ := XB.out _ _ _ _ K3; obtain ⟨r0, r1, r2, r3, r4, r5⟩ := XB.out _ _ _ _ L3)
                | (go_at_call 19; (with_reducible refine (C2.out _ J3.out _ _ K3.out.tr O.out).mono ?_); rintro e1 w4 ⟨rfl, b1⟩; have J4 := Lib.hid (AgS.step J3 b1); have K4 := AgT.step K3 b1; have L4 := AgT.step L3 b1; clear b1; clear p0 p1 p2 p3 p4 p5 q0 q1 q2 q3 q4 q5 r0 r1 r2 r3 r4 r5; obtain ⟨p0, p1, p2, p3, p4, p5⟩ := EB.out _ J4; obtain ⟨q0, q1, q2, q3, q4, q5⟩ := XB.out _ _ _ _ K4; obtain ⟨r0, r1, r2, r3, r4, r5⟩ := XB.out _ _ _ _ L4)
                | (go_at_call 20; (with_reducible refine (CS.out _ _ _ _ _ K4.out.tr L4.out.tr).mono ?_); rintro e1 w5 ⟨rfl, b1⟩; have J5 := Lib.hid (AgS.step J4 b1); have K5 := AgT.step K4 b1; clear b1; clear p0 p1 p2 p3 p4 p5 q0 q1 q2 q3 q4 q5 r0 r1 r2 r3 r4 r5; obtain ⟨p0, p1, p2, p3, p4, p5⟩ := EB.out _ J5; obtain ⟨q0, q1, q2, q3, q4, q5⟩ := XB.out _ _ _ _ K5)
                | (go_at_call 11; (with_reducible refine (CW.out _ J5.out).mono ?_); rintro e1 w6 ⟨rfl, b1⟩; have H6 := Lib.hid (blw J5.out.b b1); clear b1))
            go_ret
            exact ⟨rfl, H6.out⟩
          · have a1 : ((x.k : Int) == 1) = false := by simp [h]
            have a2 : ((x.k : Int) == 2) = true := by simp [h]
            clear h
            go_enter Tryd.func5, Tryd.ntmps5
            go_wp2_with (first
                | (go_at_call 12; (with_reducible refine (CG.out).mono ?_); rintro e1 w0 ⟨rfl, rfl⟩)
                | (go_at_call 13; (with_reducible refine (F1.out _ J0.out).mono ?_); rintro e1 w1 ⟨B1, g1, rfl, t1, o1, b1⟩; have J1 := Lib.hid (AgS.step J0 (bal b1 (.cells #[.int .u8 (x.k : Int), .int .u8 (x.o : Int), .int .u8 (x.t : Int), .int .i32 x.n, .string SX, .slice B1 x.l.length g1] 31))); have K1 := NB.out w1 B1 g1 t1; have O := Lib.hid o1; clear t1 o1 b1; clear p0 p1 p2 p3 p4 p5; obtain ⟨p0, p1, p2, p3, p4, p5⟩ := EB.out _ J1; obtain ⟨q0, q1, q2, q3, q4, q5⟩ := XB.out _ _ _ _ K1)
                | (go_at_call 13; (with_reducible refine (F2.out _ J1.out _ _ K1.out.tr O.out).mono ?_); rintro e1 w2 ⟨B2, g2, rfl, t1, o1, b1⟩; have b2 := bal b1 (.cells #[.int .u8 (x.k : Int), .int .u8 (x.o : Int), .int .u8 (x.t : Int), .int .i32 x.n, .string SX, .slice B2 x.l.length g2] 31); have J2 := Lib.hid (AgS.step J1 b2); have K2 := AgT.step K1 b2; have L2 := NB.out w2 B2 g2 t1; clear t1 o1 b1 b2; clear p0 p1 p2 p3 p4 p5 q0 q1 q2 q3 q4 q5; obtain ⟨p0, p1, p2, p3, p4, p5⟩ := EB.out _ J2; obtain ⟨q0, q1, q2, q3, q4, q5⟩ := XB.out _ _ _ _ K2; obtain ⟨r0, r1, r2, r3, r4, r5⟩ := XB.out _ _ _ _ L2)
                | (go_at_call 19; (with_reducible refine (C1.out _ J2.out).mono ?_); rintro e1 w3 ⟨rfl, b1⟩; have J3 := Lib.hid (AgS.step J2 b1); have K3 := AgT.step K2 b1; have L3 := AgT.step L2 b1; clear b1; clear p0 p1 p2 p3 p4 p5 q0 q1 q2 q3 q4 q5 r0 r1 r2 r3 r4 r5; obtain ⟨p0, p1, p2, p3, p4, p5⟩ := EB.out _ J3; obtain ⟨q0, q1, q2, q3, q4, q5⟩ := XB.out _ _ _ _ K3; obtain ⟨r0, r1, r2, r3, r4, r5⟩ := XB.out _ _ _ _ L3)
                | (go_at_call 19; (with_reducible refine (C2.out _ J3.out _ _ K3.out.tr O.out).mono ?_); rintro e1 w4 ⟨rfl, b1⟩; have J4 := Lib.hid (AgS.step J3 b1); have K4 := AgT.step K3 b1; have L4 := AgT.step L3 b1; clear b1; clear p0 p1 p2 p3 p4 p5 q0 q1 q2 q3 q4 q5 r0 r1 r2 r3 r4 r5; obtain ⟨p0, p1, p2, p3, p4, p5⟩ := EB.out _ J4; obtain ⟨q0, q1, q2, q3, q4, q5⟩ := XB.out _ _ _ _ K4; obtain ⟨r0, r1, r2, r3, r4, r5⟩ := XB.out _ _ _ _ L4)
                | (go_at_call 20; (with_reducible refine (CS.out _ _ _ _ _ K4.out.tr L4.out.tr).mono ?_); rintro e1 w5 ⟨rfl, b1⟩; have J5 := Lib.hid (AgS.step J4 b1); have K5 := AgT.step K4 b1; clear b1; clear p0 p1 p2 p3 p4 p5 q0 q1 q2 q3 q4 q5 r0 r1 r2 r3 r4 r5; obtain ⟨p0, p1, p2, p3, p4, p5⟩ := EB.out _ J5; obtain ⟨q0, q1, q2, q3, q4, q5⟩ := XB.out _ _ _ _ K5)
                | (go_at_call 11; (with_reducible refine (CW.out _ J5.out).mono ?_); rintro e1 w6 ⟨rfl, b1⟩; have H6 := Lib.hid (blw J5.out.b b1); clear b1))
            go_ret
            exact ⟨rfl, H6.out⟩
          · have a1 : ((x.k : Int) == 1) = false := by simp [h]
            have a2 : ((x.k : Int) == 2) = false := by simp [h]
            have a3 : ((x.k : Int) == 3) = true := by simp [h]
            clear h
            go_enter Tryd.func5, Tryd.ntmps5
            go_wp2_with (first
                | (go_at_call 12; (with_reducible refine (CG.out).mono ?_); rintro e1 w0 ⟨rfl, rfl⟩)
                | (go_at_call 13; (with_reducible refine (F1.out _ J0.out).mono ?_); rintro e1 w1 ⟨B1, g1, rfl, t1, o1, b1⟩; have J1 := Lib.hid (AgS.step J0 (bal b1 (.cells #[.int .u8 (x.k : Int), .int .u8 (x.o : Int), .int .u8 (x.t : Int), .int .i32 x.n, .string SX, .slice B1 x.l.length g1] 31))); have K1 := NB.out w1 B1 g1 t1; have O := Lib.hid o1; clear t1 o1 b1; clear p0 p1 p2 p3 p4 p5; obtain ⟨p0, p1, p2, p3, p4, p5⟩ := EB.out _ J1; obtain ⟨q0, q1, q2, q3, q4, q5⟩ := XB.out _ _ _ _ K1)
                | (go_at_call 13; (with_reducible refine (F2.out _ J1.out _ _ K1.out.tr O.out).mono ?_); rintro e1 w2 ⟨B2, g2, rfl, t1, o1, b1⟩; have b2 := bal b1 (.cells #[.int .u8 (x.k : Int), .int .u8 (x.o : Int), .int .u8 (x.t : Int), .int .i32 x.n, .string SX, .slice B2 x.l.length g2] 31); have J2 := Lib.hid (AgS.step J1 b2); have K2 := AgT.step K1 b2; have L2 := NB.out w2 B2 g2 t1; clear t1 o1 b1 b2; clear p0 p1 p2 p3 p4 p5 q0 q1 q2 q3 q4 q5; obtain ⟨p0, p1, p2, p3, p4, p5⟩ := EB.out _ J2; obtain ⟨q0, q1, q2, q3, q4, q5⟩ := XB.out _ _ _ _ K2; obtain ⟨r0, r1, r2, r3, r4, r5⟩ := XB.out _ _ _ _ L2)
                | (go_at_call 19; (with_reducible refine (C1.out _ J2.out).mono ?_); rintro e1 w3 ⟨rfl, b1⟩; have J3 := Lib.hid (AgS.step J2 b1); have K3 := AgT.step K2 b1; have L3 := AgT.step L2 b1; clear b1; clear p0 p1 p2 p3 p4 p5 q0 q1 q2 q3 q4 q5 r0 r1 r2 r3 r4 r5; obtain ⟨p0, p1, p2, p3, p4, p5⟩ := EB.out _ J3; obtain ⟨q0, q1, q2, q3, q4, q5⟩ := XB.out _ _ _ _ K3; obtain ⟨r0, r1, r2, r3, r4, r5⟩ := XB.out _ _ _ _ L3)
                | (go_at_call 19; (with_reducible refine (C2.out _ J3.out _ _ K3.out.tr O.out).mono ?_); rintro e1 w4 ⟨rfl, b1⟩; have J4 := Lib.hid (AgS.step J3 b1); have K4 := AgT.step K3 b1; have L4 := AgT.step L3 b1; clear b1; clear p0 p1 p2 p3 p4 p5 q0 q1 q2 q3 q4 q5 r0 r1 r2 r3 r4 r5; obtain ⟨p0, p1, p2, p3, p4, p5⟩ := EB.out _ J4; obtain ⟨q0, q1, q2, q3, q4, q5⟩ := XB.out _ _ _ _ K4; obtain ⟨r0, r1, r2, r3, r4, r5⟩ := XB.out _ _ _ _ L4)
                | (go_at_call 20; (with_reducible refine (CS.out _ _ _ _ _ K4.out.tr L4.out.tr).mono ?_); rintro e1 w5 ⟨rfl, b1⟩; have J5 := Lib.hid (AgS.step J4 b1); have K5 := AgT.step K4 b1; clear b1; clear p0 p1 p2 p3 p4 p5 q0 q1 q2 q3 q4 q5 r0 r1 r2 r3 r4 r5; obtain ⟨p0, p1, p2, p3, p4, p5⟩ := EB.out _ J5; obtain ⟨q0, q1, q2, q3, q4, q5⟩ := XB.out _ _ _ _ K5)
                | (go_at_call 11; (with_reducible refine (CW.out _ J5.out).mono ?_); rintro e1 w6 ⟨rfl, b1⟩; have H6 := Lib.hid (blw J5.out.b b1); clear b1))
            go_ret
            exact ⟨rfl, H6.out⟩
      · have hv2 : (v2 != 0) = true := by simp [h0]
        clear HLit h0
        go_enter Tryd.func5, Tryd.ntmps5
        go_wp2_with (first
            | (go_at_call 12; (with_reducible refine (CG.out).mono ?_); rintro e1 w0 ⟨rfl, rfl⟩)
            | (go_at_call 13; (with_reducible refine (F1.out _ J0.out).mono ?_); rintro e1 w1 ⟨B1, g1, rfl, t1, o1, b1⟩; have J1 := Lib.hid (AgS.step J0 (bal b1 (.cells #[.int .u8 (x.k : Int), .int .u8 (x.o : Int), .int .u8 (x.t : Int), .int .i32 x.n, .string SX, .slice B1 x.l.length g1] 31))); have K1 := NB.out w1 B1 g1 t1; have O := Lib.hid o1; clear t1 o1 b1; clear p0 p1 p2 p3 p4 p5; obtain ⟨p0, p1, p2, p3, p4, p5⟩ := EB.out _ J1; obtain ⟨q0, q1, q2, q3, q4, q5⟩ := XB.out _ _ _ _ K1)
            | (go_at_call 13; (with_reducible refine (F2.out _ J1.out _ _ K1.out.tr O.out).mono ?_); rintro e1 w2 ⟨B2, g2, rfl, t1, o1, b1⟩; have b2 := bal b1 (.cells #[.int .u8 (x.k : Int), .int .u8 (x.o : Int), .int .u8 (x.t : Int), .int .i32 x.n, .string SX, .slice B2 x.l.length g2] 31); have J2 := Lib.hid (AgS.step J1 b2); have K2 := AgT.step K1 b2; have L2 := NB.out w2 B2 g2 t1; clear t1 o1 b1 b2; clear p0 p1 p2 p3 p4 p5 q0 q1 q2 q3 q4 q5; obtain ⟨p0, p1, p2, p3, p4, p5⟩ := EB.out _ J2; obtain ⟨q0, q1, q2, q3, q4, q5⟩ := XB.out _ _ _ _ K2; obtain ⟨r0, r1, r2, r3, r4, r5⟩ := XB.out _ _ _ _ L2)
            | (go_at_call 19; (with_reducible refine (C1.out _ J2.out).mono ?_); rintro e1 w3 ⟨rfl, b1⟩; have J3 := Lib.hid (AgS.step J2 b1); have K3 := AgT.step K2 b1; have L3 := AgT.step L2 b1; clear b1; clear p0 p1 p2 p3 p4 p5 q0 q1 q2 q3 q4 q5 r0 r1 r2 r3 r4 r5; obtain ⟨p0, p1, p2, p3, p4, p5⟩ := EB.out _ J3; obtain ⟨q0, q1, q2, q3, q4, q5⟩ := XB.out _ _ _ _ K3; obtain ⟨r0, r1, r2, r3, r4, r5⟩ := XB.out _ _ _ _ L3)
            | (go_at_call 19; (with_reducible refine (C2.out _ J3.out _ _ K3.out.tr O.out).mono ?_); rintro e1 w4 ⟨rfl, b1⟩; have J4 := Lib.hid (AgS.step J3 b1); have K4 := AgT.step K3 b1; have L4 := AgT.step L3 b1; clear b1; clear p0 p1 p2 p3 p4 p5 q0 q1 q2 q3 q4 q5 r0 r1 r2 r3 r4 r5; obtain ⟨p0, p1, p2, p3, p4, p5⟩ := EB.out _ J4; obtain ⟨q0, q1, q2, q3, q4, q5⟩ := XB.out _ _ _ _ K4; obtain ⟨r0, r1, r2, r3, r4, r5⟩ := XB.out _ _ _ _ L4)
            | (go_at_call 20; (with_reducible refine (CS.out _ _ _ _ _ K4.out.tr L4.out.tr).mono ?_); rintro e1 w5 ⟨rfl, b1⟩; have J5 := Lib.hid (AgS.step J4 b1); have K5 := AgT.step K4 b1; clear b1; clear p0 p1 p2 p3 p4 p5 q0 q1 q2 q3 q4 q5 r0 r1 r2 r3 r4 r5; obtain ⟨p0, p1, p2, p3, p4, p5⟩ := EB.out _ J5; obtain ⟨q0, q1, q2, q3, q4, q5⟩ := XB.out _ _ _ _ K5)
            | (go_at_call 11; (with_reducible refine (CW.out _ J5.out).mono ?_); rintro e1 w6 ⟨rfl, b1⟩; have H6 := Lib.hid (blw J5.out.b b1); clear b1))
        go_ret
        exact ⟨rfl, H6.out⟩
end Go.Proofs.YtimbiobonigdmaaDoor
