/- The chapter's examples hold. -/
import Derived.Test.YtlockfoidhndeaaDoorRdi
namespace Go.Proofs.YtlockfoidhndeaaDoor
open Go Go.RowKit

/-- Read, called with a text whose reading is known. -/
theorem rd_at {w : World} (hg : Good w) {s : ByteArray} (hs : s.size ≤ maxLen) {f a e : Int} (h : rdI s.data.toList = (f, a, e)) (W : World) (b : Below w.heap.size w W) :
    Calls Tryd.prog 20 #[.string s] W fun x w' => x = .returned (.tuple #[.agg #[.int .u8 f, .int .i32 a], .int .i64 e]) ∧ Below W.heap.size W w' := by
  have := Read_is s hs W (hg.below b)
  rw [h] at this
  exact this
theorem tx_at {w : World} (hg : Good w) {f a : Int} (hf : 0 ≤ f) (ha : isW a) {l : List UInt8} {e : Int} (h1 : txL f a = l) (h2 : txE f a = e) (W : World) (b : Below w.heap.size w W) :
    Calls Tryd.prog 14 #[.agg #[.int .u8 f, .int .i32 a]] W fun x w' => x = .returned (.tuple #[.string (strOf l), .int .i64 e]) ∧ Below W.heap.size W w' := by
  have := Text_is f a hf ha W (hg.below b)
  rw [h1, h2] at this
  exact this
set_option maxHeartbeats 1000000 in
theorem fails_at {w : World} (hg : Good w) {s : ByteArray} (hs : s.size ≤ maxLen) {e : Int} (h : rdI s.data.toList = (0, 0, e)) (W : World) (b : Below w.heap.size w W) :
    Calls Tryd.prog 25 #[.string s, .int .i64 e] W fun x w' => x = .returned (.bool true) ∧ Below W.heap.size W w' := by
  have C := Lib.hid (rd_at hg hs h)
  have B := Lib.hid b
  clear hg hs h b
  go_enter Tryd.func25, Tryd.ntmps25
  go_wp2_with (go_at_call 20; refine (C.out _ B.out).mono ?_; rintro e w2 ⟨rfl, b2⟩; have B2 := Lib.hid b2; clear b2)
  go_ret
  exact ⟨rfl, bal B2.out _⟩
set_option maxHeartbeats 1000000 in
theorem reads_at {w : World} (hg : Good w) {s : ByteArray} (hs : s.size ≤ maxLen) {f a : Int} (hf : 0 ≤ f) (ha : isW a) (h : rdI s.data.toList = (f, a, 0)) (h1 : txL f a = s.data.toList) (h2 : txE f a = 0) (W : World) (b : Below w.heap.size w W) :
    Calls Tryd.prog 33 #[.string s, .int .u8 f, .int .i32 a] W fun x w' => x = .returned (.bool true) ∧ Below W.heap.size W w' := by
  have C := Lib.hid (rd_at hg hs h)
  have D := tx_at hg hf ha h1 h2
  rw [show strOf s.data.toList = s from (strOf_of rfl).symm] at D
  have D := Lib.hid D
  have B := Lib.hid b
  clear hg hs h b h1 h2 hf ha
  go_enter Tryd.func33, Tryd.ntmps33
  go_wp2_with (first
    | (go_at_call 20; refine (C.out _ B.out).mono ?_; rintro e w2 ⟨rfl, b2⟩; have B2 := Lib.hid b2; clear b2)
    | (go_at_call 14; refine (D.out _ (blw B.out (bal B2.out _))).mono ?_; rintro e w3 ⟨rfl, b3⟩; obtain ⟨x0, x1, x2⟩ := box2 b3; have B3 := Lib.hid (blw (bal B2.out _) b3); clear b3))
  go_ret
  exact ⟨rfl, B3.out⟩
theorem isW_k {a : Int} (h : (decide (-2147483648 ≤ a) && decide (a ≤ 2147483647)) = true) : isW a := by
  simp only [Bool.and_eq_true, decide_eq_true_eq] at h
  exact h
theorem may_at {w : World} (hg : Good w) {f a : Int} (hf : 0 ≤ f) (ha : isW a) {q : Bool} (h : ex f a = q) (W : World) (b : Below w.heap.size w W) :
    Calls Tryd.prog 16 #[.agg #[.int .u8 f, .int .i32 a]] W fun x w' => x = .returned (.bool q) ∧ Below W.heap.size W w' := by
  have := May_any f a hf ha W (hg.1.below b)
  rw [h] at this
  exact this
theorem eff_at {w : World} (hg : Good w) {f a : Int} (hf : 0 ≤ f) (ha : isW a) {x y : Int} {q : Bool} (h1 : tk f a = x) (h2 : lv f a = y) (h3 : ex f a = q) (W : World) (b : Below w.heap.size w W) :
    Calls Tryd.prog 13 #[.agg #[.int .u8 f, .int .i32 a]] W fun e w' => e = .returned (.tuple #[.int .i64 x, .int .i64 y, .bool q]) ∧ Below W.heap.size W w' := by
  have := Effect_any f a hf ha W (hg.1.below b)
  rw [h1, h2, h3] at this
  exact this
theorem sz {s : ByteArray} (h : s.size ≤ 100) : s.size ≤ maxLen := by unfold maxLen; omega
set_option maxRecDepth 100000 in
set_option maxHeartbeats 4000000 in
theorem awake_is {w : World} (hg : Good w) :
    Calls Tryd.prog 17 #[] w fun e w' => e = .returned (.bool true) ∧ Below w.heap.size w w' := by
  have c1 := Lib.hid (eff_at hg (f := 15) (a := 25) (x := 2) (y := 3) (q := true) (by decide) (isW_k rfl) (by decide +kernel) (by decide +kernel) (by decide +kernel))
  have c2 := Lib.hid (rd_at hg (s := ⟨#[108, 100, 99, 32, 35, 70, 70, 70, 70, 70, 70, 70, 70]⟩) (f := 4) (a := -1) (e := 0) (sz (by decide)) (by decide +kernel))
  have c3 := Lib.hid (reads_at hg (s := ⟨#[106, 32, 48]⟩) (f := 0) (a := 0) (sz (by decide)) (by decide) (isW_k rfl) (by decide +kernel) (by decide +kernel) (by decide +kernel))
  have c4 := Lib.hid (reads_at hg (s := ⟨#[97, 106, 119, 32, 45, 53]⟩) (f := 11) (a := (-5)) (sz (by decide)) (by decide) (isW_k rfl) (by decide +kernel) (by decide +kernel) (by decide +kernel))
  have c5 := Lib.hid (reads_at hg (s := ⟨#[97, 100, 100]⟩) (f := 15) (a := 5) (sz (by decide)) (by decide) (isW_k rfl) (by decide +kernel) (by decide +kernel) (by decide +kernel))
  have c6 := Lib.hid (reads_at hg (s := ⟨#[108, 100, 108, 112, 32, 45, 50, 49, 52, 55, 52, 56, 51, 54, 52, 56]⟩) (f := 1) (a := (-2147483648)) (sz (by decide)) (by decide) (isW_k rfl) (by decide +kernel) (by decide +kernel) (by decide +kernel))
  have c7 := Lib.hid (fails_at hg (s := ⟨#[97, 100, 100, 32]⟩) (e := 5) (sz (by decide)) (by decide +kernel))
  have c8 := Lib.hid (fails_at hg (s := ⟨#[115, 116, 108, 32, 48, 51]⟩) (e := 5) (sz (by decide)) (by decide +kernel))
  have c9 := Lib.hid (fails_at hg (s := ⟨#[111, 112, 114, 32, 53]⟩) (e := 50) (sz (by decide)) (by decide +kernel))
  have c10 := Lib.hid (may_at hg (f := 15) (a := 17) (q := false) (by decide) (isW_k rfl) (by decide +kernel))
  clear hg
  go_enter Tryd.func17, Tryd.ntmps17
  have B0 := Lib.hid (b0 w)
  go_wp2_with fail
  refine (c1.out _ B0.out).mono ?_
  rintro e w1 ⟨rfl, b1⟩
  have B1 := Lib.hid (blw B0.out b1)
  clear b1
  go_wp2_with fail
  refine (c2.out _ B1.out).mono ?_
  rintro e w2 ⟨rfl, b2⟩
  have B2 := Lib.hid (bal (blw B1.out b2) (.cells #[.int .u8 4, .int .i32 (-1)] 23))
  have R2 := Lib.hid (boxS_new w2 23 #[.int .u8 4, .int .i32 (-1)])
  clear b2
  go_wp2_with fail
  refine (c3.out _ B2.out).mono ?_
  rintro e w3 ⟨rfl, b3⟩
  have B3 := Lib.hid (blw B2.out b3)
  have R3 := Lib.hid (R2.out.below b3)
  clear b3
  go_wp2_with fail
  refine (c4.out _ B3.out).mono ?_
  rintro e w4 ⟨rfl, b4⟩
  have B4 := Lib.hid (blw B3.out b4)
  have R4 := Lib.hid (R3.out.below b4)
  clear b4
  go_wp2_with fail
  refine (c5.out _ B4.out).mono ?_
  rintro e w5 ⟨rfl, b5⟩
  have B5 := Lib.hid (blw B4.out b5)
  have R5 := Lib.hid (R4.out.below b5)
  clear b5
  go_wp2_with fail
  refine (c6.out _ B5.out).mono ?_
  rintro e w6 ⟨rfl, b6⟩
  have B6 := Lib.hid (blw B5.out b6)
  have R6 := Lib.hid (R5.out.below b6)
  clear b6
  go_wp2_with fail
  refine (c7.out _ B6.out).mono ?_
  rintro e w7 ⟨rfl, b7⟩
  have B7 := Lib.hid (blw B6.out b7)
  have R7 := Lib.hid (R6.out.below b7)
  clear b7
  go_wp2_with fail
  refine (c8.out _ B7.out).mono ?_
  rintro e w8 ⟨rfl, b8⟩
  have B8 := Lib.hid (blw B7.out b8)
  have R8 := Lib.hid (R7.out.below b8)
  clear b8
  go_wp2_with fail
  refine (c9.out _ B8.out).mono ?_
  rintro e w9 ⟨rfl, b9⟩
  have B9 := Lib.hid (blw B8.out b9)
  have R9 := Lib.hid (R8.out.below b9)
  clear b9
  obtain ⟨r1, r2, r3, r4, r5⟩ := boxf R9.out
  go_wp2_with fail
  refine (c10.out _ B9.out).mono ?_
  rintro e w10 ⟨rfl, b10⟩
  have B10 := Lib.hid (blw B9.out b10)
  clear b10
  go_wp2
  go_ret
  exact ⟨rfl, B10.out⟩
end Go.Proofs.YtlockfoidhndeaaDoor
