/- The law on the two texts of an operand returns true. -/
import Derived.Test.YtlockfoidhndeaaDoorSpc
namespace Go.Proofs.YtlockfoidhndeaaDoor
open Go Go.RowKit

theorem wtext_at {w : World} (hg : Good w) {a : Int} (hex : Bool) (ha : isW a) (W : World) (b : Below w.heap.size w W) :
    Calls Tryd.prog 24 #[.int .i32 a, .bool hex] W fun e w' => e = .returned (.string (strOf (textL a hex))) ∧ Below W.heap.size W w' := Text_any a hex ha W (hg.2.below b)
set_option maxRecDepth 100000 in
set_option maxHeartbeats 2000000 in
theorem hex_none (f a : Int) (hf : 0 ≤ f) (ha : isW a) (hx : ex f a = false) (w : World) (hg : Good w) :
    Calls Tryd.prog 9 #[.agg #[.int .u8 f, .int .i32 a]] w fun e w' => e = .returned (.bool true) ∧ Below w.heap.size w w' := by
  have N := Lib.hid (name_at hg hf ha hx)
  have A := Lib.hid (awake_at hg)
  generalize nm f a = n at *
  clear hg hx ha
  go_enter Tryd.func9, Tryd.ntmps9
  have B0 := Lib.hid (bal (b0 w) (.cells #[.int .u8 f, .int .i32 a] 23))
  go_wp2_with fail
  refine (N.out _ B0.out).mono ?_
  rintro e w1 ⟨rfl, b1⟩
  have B1 := Lib.hid (blw B0.out b1)
  obtain ⟨x1, x2, x3⟩ := box2 b1
  clear b1
  go_wp2_with fail
  refine (A.out _ B1.out).mono ?_
  rintro e w2 ⟨rfl, b2⟩
  have B2 := Lib.hid (blw B1.out b2)
  clear b2
  go_wp2
  go_ret
  exact ⟨rfl, B2.out⟩
set_option maxRecDepth 100000 in
set_option maxHeartbeats 2000000 in
theorem hex_op (a : Int) (ha : isW a) (hx : ex 15 a = true) (w : World) (hg : Good w) :
    Calls Tryd.prog 9 #[.agg #[.int .u8 15, .int .i32 a]] w fun e w' => e = .returned (.bool true) ∧ Below w.heap.size w w' := by
  have N := Lib.hid (name_at hg (by decide) ha hx)
  have A := Lib.hid (awake_at hg)
  generalize nm 15 a = n at *
  clear hg hx ha
  go_enter Tryd.func9, Tryd.ntmps9
  have B0 := Lib.hid (bal (b0 w) (.cells #[.int .u8 15, .int .i32 a] 23))
  go_wp2_with fail
  refine (N.out _ B0.out).mono ?_
  rintro e w1 ⟨rfl, b1⟩
  have B1 := Lib.hid (blw B0.out b1)
  obtain ⟨x1, x2, x3⟩ := box2 b1
  clear b1
  go_wp2_with fail
  refine (A.out _ B1.out).mono ?_
  rintro e w2 ⟨rfl, b2⟩
  have B2 := Lib.hid (blw B1.out b2)
  clear b2
  go_wp2
  go_ret
  exact ⟨rfl, B2.out⟩
theorem hex_facts {n t : List UInt8} (h : n.length + t.length ≤ 1000) : Op.stringOp .add (strOf n) ⟨#[32]⟩ = pure (.string (strOf (n ++ [32]))) ∧ Op.stringOp .add (strOf (n ++ [32])) (strOf t) = pure (.string (strOf (n ++ 32 :: t))) := by
  have h1 := cat_str n [32] (by simp; omega)
  have h2 := cat_str (n ++ [32]) t (by simp; omega)
  rw [show (n ++ [32]) ++ t = n ++ 32 :: t by simp] at h2
  exact ⟨h1, h2⟩
set_option maxRecDepth 100000 in
set_option maxHeartbeats 4000000 in
theorem hex_fn (f a : Int) (hf : 0 ≤ f) (ha : isW a) (hx : ex f a = true) (h15 : f ≠ 15) (w : World) (hg : Good w) :
    Calls Tryd.prog 9 #[.agg #[.int .u8 f, .int .i32 a]] w fun e w' => e = .returned (.bool true) ∧ Below w.heap.size w w' := by
  have hq : (f == 15) = false := by simpa using h15
  have N := Lib.hid (name_at hg hf ha hx)
  have A := Lib.hid (awake_at hg)
  have T := Lib.hid (wtext_at hg false ha)
  have U := Lib.hid (wtext_at hg true ha)
  have l1 := (ex_facts hf hx).2.2.2.2.1
  have l2 := (text_len a false ha.1 ha.2).2
  have l3 := (text_len a true ha.1 ha.2).2
  have R := Lib.hid (rdl_at hg (l := nm f a ++ 32 :: textL a false) (by simp; omega) (rd_hex hf ha hx h15 false))
  have S := Lib.hid (rdl_at hg (l := nm f a ++ 32 :: textL a true) (by simp; omega) (rd_hex hf ha hx h15 true))
  obtain ⟨k1, k2⟩ := hex_facts (n := nm f a) (t := textL a false) (by omega)
  obtain ⟨_, k3⟩ := hex_facts (n := nm f a) (t := textL a true) (by omega)
  generalize nm f a ++ 32 :: textL a false = s1 at *
  generalize nm f a ++ 32 :: textL a true = s2 at *
  generalize hn : nm f a = n at *
  generalize n ++ [32] = ns at *
  generalize textL a false = t1 at *
  generalize textL a true = t2 at *
  clear hg hx hf ha h15 l1 l2 l3 hn
  go_enter Tryd.func9, Tryd.ntmps9
  have B0 := Lib.hid (bal (b0 w) (.cells #[.int .u8 f, .int .i32 a] 23))
  have X0 := Lib.hid (boxS_new w 23 #[.int .u8 f, .int .i32 a])
  go_wp2_with fail
  refine (N.out _ B0.out).mono ?_
  rintro e w1 ⟨rfl, b1⟩
  have B1 := Lib.hid (blw B0.out b1)
  have X1 := Lib.hid (X0.out.below b1)
  clear b1
  obtain ⟨x1, x2, x3, x4, x5⟩ := boxf X1.out
  go_wp2_with fail
  refine (T.out _ B1.out).mono ?_
  rintro e w2 ⟨rfl, b2⟩
  have B2 := Lib.hid (blw B1.out b2)
  have X2 := Lib.hid (X1.out.below b2)
  clear b2 x1 x2 x3 x4 x5
  go_wp2_with fail
  refine (R.out _ B2.out).mono ?_
  rintro e w3 ⟨rfl, b3⟩
  have B3 := Lib.hid (bal (blw B2.out b3) (.cells #[.int .u8 f, .int .i32 a] 23))
  have X3 := Lib.hid ((X2.out.below b3).grown (World.grownBy_alloc _ (.cells #[.int .u8 f, .int .i32 a] 23) none))
  have Y3 := Lib.hid (boxS_new w3 23 #[.int .u8 f, .int .i32 a])
  obtain ⟨x1, x2, x3, x4, x5⟩ := boxf (X2.out.below b3)
  clear b3
  go_wp2_with fail
  refine (U.out _ B3.out).mono ?_
  rintro e w4 ⟨rfl, b4⟩
  have B4 := Lib.hid (blw B3.out b4)
  have X4 := Lib.hid (X3.out.below b4)
  have Y4 := Lib.hid (Y3.out.below b4)
  clear b4 x1 x2 x3 x4 x5
  go_wp2_with fail
  refine (S.out _ B4.out).mono ?_
  rintro e w5 ⟨rfl, b5⟩
  have B5 := Lib.hid (bal (blw B4.out b5) (.cells #[.int .u8 f, .int .i32 a] 23))
  obtain ⟨x1, x2, x3, x4, x5⟩ := boxf (X4.out.below b5)
  obtain ⟨y1, y2, y3, y4, y5⟩ := boxf (Y4.out.below b5)
  clear b5
  go_wp2_with fail
  refine (A.out _ B5.out).mono ?_
  rintro e w6 ⟨rfl, b6⟩
  have B6 := Lib.hid (blw B5.out b6)
  clear b6 x1 x2 x3 x4 x5 y1 y2 y3 y4 y5
  go_wp2
  go_ret
  exact ⟨rfl, B6.out⟩
theorem walkInstrHex (f0 b0 : Int) (wf0 : (Lit.int .u8 f0).wf = true) (wb0 : (Lit.int .i32 b0).wf = true) (w : World) (hg : Good w) :
    Calls Tryd.prog 9 #[.agg #[.int .u8 f0, .int .i32 b0]] w fun e w' => e = .returned (.bool true) ∧ Below w.heap.size w w' := by
  have hf := (u8_of_wf wf0).1
  have ha := isW_of_wf wb0
  cases hx : ex f0 b0
  · exact hex_none f0 b0 hf ha hx w hg
  · by_cases h15 : f0 = 15
    · subst h15; exact hex_op b0 ha hx w hg
    · exact hex_fn f0 b0 hf ha hx h15 w hg
end Go.Proofs.YtlockfoidhndeaaDoor
