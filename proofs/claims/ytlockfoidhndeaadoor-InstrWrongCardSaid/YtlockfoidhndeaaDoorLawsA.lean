/- The laws that compare with the reference return true. -/
import Derived.Test.YtlockfoidhndeaaDoorAwake
import Derived.Test.YtlockfoidhndeaaDoorRrdi
namespace Go.Proofs.YtlockfoidhndeaaDoor
open Go Go.RowKit

theorem u8_of_wf {a : Int} (h : (Lit.int .u8 a).wf = true) : 0 ≤ a ∧ a ≤ 255 := by
  simp only [Lit.wf, IntKind.min, IntKind.max, IntKind.signed, IntKind.bits, Bool.and_eq_true] at h
  exact ⟨by simpa using h.1, by simpa using h.2⟩
theorem awake_at {w : World} (hg : Good w) (W : World) (b : Below w.heap.size w W) : Calls Tryd.prog 17 #[] W fun e w' => e = .returned (.bool true) ∧ Below W.heap.size W w' := awake_is (hg.below b)
set_option maxRecDepth 100000 in
set_option maxHeartbeats 2000000 in
theorem walkInstrNamed (a0 : ByteArray) (_w0 : a0.size ≤ maxLen) (w : World) (hg : Good w) :
    Calls Tryd.prog 4 #[.string a0] w fun e w' => e = .returned (.bool true) ∧ Below w.heap.size w w' := by
  have C := Lib.hid (fun (W : World) (b : Below w.heap.size w W) => Named_any a0 W (hg.1.below b))
  have D := Lib.hid (fun (W : World) => RNamed_any a0 W)
  have A := Lib.hid (awake_at hg)
  generalize ndF a0.data.toList = f at *
  generalize ndA a0.data.toList = a at *
  generalize ndO a0.data.toList = o at *
  clear hg
  go_enter Tryd.func4, Tryd.ntmps4
  go_wp2_with fail
  refine (C.out _ (b0 _)).mono ?_
  rintro e w1 ⟨rfl, b1⟩
  have B1 := Lib.hid (bal b1 (.cells #[.int .u8 f, .int .i32 a] 23))
  have R1 := Lib.hid (boxS_new w1 23 #[.int .u8 f, .int .i32 a])
  clear b1
  go_wp2_with fail
  refine (D.out _).mono ?_
  rintro e w2 ⟨rfl, b2⟩
  have B2 := Lib.hid (bal (blw B1.out b2) (.cells #[.int .u8 f, .int .i32 a] 23))
  have R2 := Lib.hid (R1.out.below b2)
  clear b2
  obtain ⟨r1, r2, r3, r4, r5⟩ := boxf R2.out
  go_wp2_with fail
  refine (A.out _ B2.out).mono ?_
  rintro e w3 ⟨rfl, b3⟩
  have B3 := Lib.hid (blw B2.out b3)
  clear b3
  go_wp2
  go_ret
  exact ⟨rfl, B3.out⟩
set_option maxRecDepth 100000 in
set_option maxHeartbeats 2000000 in
theorem walkInstrRead (a0 : ByteArray) (w0 : a0.size ≤ maxLen) (w : World) (hg : Good w) :
    Calls Tryd.prog 5 #[.string a0] w fun e w' => e = .returned (.bool true) ∧ Below w.heap.size w w' := by
  have C := Lib.hid (fun (W : World) (b : Below w.heap.size w W) => Read_is a0 w0 W (hg.below b))
  have D := Lib.hid (fun (W : World) => RRead_is a0 w0 W)
  have A := Lib.hid (awake_at hg)
  generalize (rdI a0.data.toList).1 = f at *
  generalize (rdI a0.data.toList).2.1 = a at *
  generalize (rdI a0.data.toList).2.2 = o at *
  unfold RetI at C D
  clear hg w0
  go_enter Tryd.func5, Tryd.ntmps5
  go_wp2_with fail
  refine (C.out _ (b0 _)).mono ?_
  rintro e w1 ⟨rfl, b1⟩
  have B1 := Lib.hid (bal b1 (.cells #[.int .u8 f, .int .i32 a] 23))
  have R1 := Lib.hid (boxS_new w1 23 #[.int .u8 f, .int .i32 a])
  clear b1
  go_wp2_with fail
  refine (D.out _).mono ?_
  rintro e w2 ⟨rfl, b2⟩
  have B2 := Lib.hid (bal (blw B1.out b2) (.cells #[.int .u8 f, .int .i32 a] 23))
  have R2 := Lib.hid (R1.out.below b2)
  clear b2
  obtain ⟨r1, r2, r3, r4, r5⟩ := boxf R2.out
  go_wp2_with fail
  refine (A.out _ B2.out).mono ?_
  rintro e w3 ⟨rfl, b3⟩
  have B3 := Lib.hid (blw B2.out b3)
  clear b3
  go_wp2
  go_ret
  exact ⟨rfl, B3.out⟩
set_option maxRecDepth 100000 in
set_option maxHeartbeats 4000000 in
theorem walkInstrRows (a0 : Int) (w0 : (Lit.int .u8 a0).wf = true) (a1 : Int) (w1 : (Lit.int .i32 a1).wf = true) (w : World) (hg : Good w) :
    Calls Tryd.prog 3 #[.int .u8 a0, .int .i32 a1] w fun e w' => e = .returned (.bool true) ∧ Below w.heap.size w w' := by
  have hf := (u8_of_wf w0).1
  have ha := isW_of_wf w1
  have F := Lib.hid (fun (W : World) => Find_any a0 a1 hf W)
  have N := Lib.hid (fun (W : World) (b : Below w.heap.size w W) => Name_any a0 a1 hf ha W (hg.1.below b))
  have E := Lib.hid (fun (W : World) (b : Below w.heap.size w W) => Effect_any a0 a1 hf ha W (hg.1.below b))
  have T := Lib.hid (fun (W : World) (b : Below w.heap.size w W) => Text_is a0 a1 hf ha W (hg.below b))
  have U := Lib.hid (fun (W : World) => RText_is a0 a1 hf ha W)
  have M := Lib.hid (fun (W : World) (b : Below w.heap.size w W) => May_any a0 a1 hf ha W (hg.1.below b))
  have A := Lib.hid (awake_at hg)
  unfold FindIs at F
  generalize fdF a0 a1 = ff at *
  generalize fdA a0 a1 = fa at *
  generalize nm a0 a1 = n at *
  generalize tk a0 a1 = x at *
  generalize lv a0 a1 = y at *
  generalize ex a0 a1 = q at *
  generalize txL a0 a1 = t at *
  generalize txE a0 a1 = te at *
  clear hg w0 w1 hf ha
  go_enter Tryd.func3, Tryd.ntmps3
  have B0 := Lib.hid (bal (b0 w) (.cells #[.int .u8 a0, .int .i32 a1] 23))
  have R0 := Lib.hid (boxS_new w 23 #[.int .u8 a0, .int .i32 a1])
  go_wp2_with fail
  refine (F.out _).mono ?_
  rintro e w1 ⟨rfl, b1⟩
  have B1 := Lib.hid (bal (blw B0.out b1) (.cells #[.int .u8 ff, .int .i32 fa, .string (strOf n), .int .i64 x, .int .i64 y] 25))
  have R1 := Lib.hid (R0.out.below b1)
  have S1 := Lib.hid (boxS_new w1 25 #[.int .u8 ff, .int .i32 fa, .string (strOf n), .int .i64 x, .int .i64 y])
  clear b1
  obtain ⟨r1, r2, r3, r4, r5⟩ := boxf R1.out
  go_wp2_with fail
  refine (N.out _ B1.out).mono ?_
  rintro e w2 ⟨rfl, b2⟩
  have B2 := Lib.hid (blw B1.out b2)
  have R2 := Lib.hid ((R1.out.grown (World.grownBy_alloc _ _ none)).below b2)
  have S2 := Lib.hid (S1.out.below b2)
  clear b2 r1 r2 r3 r4 r5
  obtain ⟨r1, r2, r3, r4, r5⟩ := boxf R2.out
  go_wp2_with fail
  refine (E.out _ B2.out).mono ?_
  rintro e w3 ⟨rfl, b3⟩
  have B3 := Lib.hid (blw B2.out b3)
  have R3 := Lib.hid (R2.out.below b3)
  have S3 := Lib.hid (S2.out.below b3)
  clear b3 r1 r2 r3 r4 r5
  obtain ⟨r1, r2, r3, r4, r5⟩ := boxf R3.out
  go_wp2_with fail
  refine (T.out _ B3.out).mono ?_
  rintro e w4 ⟨rfl, b4⟩
  have B4 := Lib.hid (blw B3.out b4)
  have R4 := Lib.hid (R3.out.below b4)
  have S4 := Lib.hid (S3.out.below b4)
  clear b4 r1 r2 r3 r4 r5
  obtain ⟨r1, r2, r3, r4, r5⟩ := boxf R4.out
  go_wp2_with fail
  refine (U.out _).mono ?_
  rintro e w5 ⟨rfl, b5⟩
  have B5 := Lib.hid (blw B4.out b5)
  have R5 := Lib.hid (R4.out.below b5)
  have S5 := Lib.hid (S4.out.below b5)
  clear b5 r1 r2 r3 r4 r5
  obtain ⟨r1, r2, r3, r4, r5⟩ := boxf R5.out
  go_wp2_with fail
  refine (M.out _ B5.out).mono ?_
  rintro e w6 ⟨rfl, b6⟩
  have B6 := Lib.hid (blw B5.out b6)
  have S6 := Lib.hid (S5.out.below b6)
  clear b6 r1 r2 r3 r4 r5
  obtain ⟨s1, s2, s3, s4, s5, _⟩ := box5 S6.out
  go_wp2_with fail
  refine (A.out _ B6.out).mono ?_
  rintro e w7 ⟨rfl, b7⟩
  have B7 := Lib.hid (blw B6.out b7)
  clear b7
  go_wp2
  go_ret
  exact ⟨rfl, B7.out⟩
end Go.Proofs.YtlockfoidhndeaaDoor
