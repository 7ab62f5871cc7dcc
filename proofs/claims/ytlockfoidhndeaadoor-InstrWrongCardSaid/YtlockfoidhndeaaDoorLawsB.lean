/- The law that texts are read back returns true. -/
import Derived.Test.YtlockfoidhndeaaDoorLawsA
namespace Go.Proofs.YtlockfoidhndeaaDoor
open Go Go.RowKit

/-- The text of an instruction is read as the instruction. -/
theorem rd_tx {f a : Int} (hf : 0 ≤ f) (ha : isW a) (he : ex f a = true) : rdI (txL f a) = (f, a, 0) := by
  obtain ⟨hfi, hc, _⟩ := ex_facts hf he
  by_cases h15 : f = 15
  · subst h15
    rw [(tx_op he rfl).1]
    obtain ⟨e1, e2⟩ := hd_none (n := nm 15 a) (fun c hc' => (hc c hc').1)
    rw [if_pos rfl] at hfi
    exact rd_op (p := (15, a)) (by rw [e1]; exact hfi) rfl e2
  · rw [(tx_fn he h15).1]
    obtain ⟨e1, e2, e3⟩ := hd_cons (n := nm f a) (x := textL a false) (fun c hc' => (hc c hc').1)
    rw [if_neg h15] at hfi
    have hr := readC_text a false ha.1 ha.2
    rw [rd_fn_ok (p := (f, 0)) (by rw [e1]; exact hfi) h15 e3 (by rw [e2, hr]), e2, hr]
theorem tx_len {f a : Int} (hf : 0 ≤ f) (ha : isW a) : (txL f a).length ≤ 30 := by
  by_cases he : ex f a = true
  · have h1 := (ex_facts hf he).2.2.2.2.1
    have h2 := (text_len a false ha.1 ha.2).2
    by_cases h15 : f = 15
    · rw [(tx_op he h15).1]; omega
    · rw [(tx_fn he h15).1]; simp; omega
  · rw [(tx_no (by simpa using he)).1]; simp
theorem str_sz {l : List UInt8} (h : l.length ≤ 1000) : (strOf l).size ≤ maxLen := by rw [strOf_size]; unfold maxLen; omega
theorem name_at {w : World} (hg : Good w) {f a : Int} (hf : 0 ≤ f) (ha : isW a) {q : Bool} (h : ex f a = q) (W : World) (b : Below w.heap.size w W) :
    Calls Tryd.prog 12 #[.agg #[.int .u8 f, .int .i32 a]] W fun e w' => e = .returned (.tuple #[.string (strOf (nm f a)), .bool q]) ∧ Below W.heap.size W w' := by
  have := Name_any f a hf ha W (hg.1.below b)
  rw [h] at this
  exact this
/-- Read, called with a text that was made. -/
theorem rdl_at {w : World} (hg : Good w) {l : List UInt8} (hs : l.length ≤ 1000) {f a e : Int} (h : rdI l = (f, a, e)) (W : World) (b : Below w.heap.size w W) :
    Calls Tryd.prog 20 #[.string (strOf l)] W fun x w' => x = .returned (.tuple #[.agg #[.int .u8 f, .int .i32 a], .int .i64 e]) ∧ Below W.heap.size W w' := rd_at hg (str_sz hs) (by rw [strOf_data]; exact h) W b
theorem same_str (l : List UInt8) : ((strOf l).toList == (strOf l).toList) = true := by rw [eq_strOf, strOf_data]; simp
theorem other_str {l m : List UInt8} (h : l ≠ m) : ((strOf l).toList == (strOf m).toList) = false := by rw [eq_strOf, strOf_data]; simpa using h
set_option maxRecDepth 100000 in
set_option maxHeartbeats 4000000 in
theorem back_no (f a g b : Int) (hf : 0 ≤ f) (ha : isW a) (hg' : 0 ≤ g) (hb : isW b) (hx : ex f a = false) (w : World) (hg : Good w) :
    Calls Tryd.prog 6 #[.agg #[.int .u8 f, .int .i32 a], .agg #[.int .u8 g, .int .i32 b]] w fun e w' => e = .returned (.bool true) ∧ Below w.heap.size w w' := by
  have hq0 : (strOf []).toList.isEmpty = true := by rw [strOf_empty]; rfl
  obtain ⟨e1, e2⟩ := tx_no hx
  have TX := Lib.hid (tx_at hg hf ha e1 e2)
  have TY := Lib.hid (tx_at hg hg' hb (l := txL g b) (e := txE g b) rfl rfl)
  have N := Lib.hid (name_at hg hf ha hx)
  have E := Lib.hid (eff_at hg hf ha (x := tk f a) (y := lv f a) rfl rfl hx)
  have M := Lib.hid (may_at hg hf ha hx)
  have A := Lib.hid (awake_at hg)
  generalize txL g b = t at *
  generalize txE g b = te at *
  generalize nm f a = n at *
  generalize tk f a = u at *
  generalize lv f a = v at *
  clear hg hx e1 e2 hf ha hg' hb
  go_enter Tryd.func6, Tryd.ntmps6
  have B0 := Lib.hid (bal (bal (b0 w) (.cells #[.int .u8 f, .int .i32 a] 23)) (.cells #[.int .u8 g, .int .i32 b] 23))
  have X0 := Lib.hid ((boxS_new w 23 #[.int .u8 f, .int .i32 a]).grown (World.grownBy_alloc _ (.cells #[.int .u8 g, .int .i32 b] 23) none))
  have Y0 := Lib.hid (by have h := boxS_new (w.alloc (.cells #[.int .u8 f, .int .i32 a] 23)) 23 #[.int .u8 g, .int .i32 b]; rw [World.size_alloc] at h; exact h : BoxS ((w.alloc (.cells #[.int .u8 f, .int .i32 a] 23)).alloc (.cells #[.int .u8 g, .int .i32 b] 23)) (w.heap.size + 1) 23 #[.int .u8 g, .int .i32 b])
  go_wp2_with fail
  refine (TX.out _ B0.out).mono ?_
  rintro e w1 ⟨rfl, b1⟩
  have B1 := Lib.hid (blw B0.out b1)
  have X1 := Lib.hid (X0.out.below b1)
  have Y1 := Lib.hid (Y0.out.below b1)
  clear b1
  obtain ⟨x1, x2, x3, x4, x5⟩ := boxf X1.out
  obtain ⟨y1, y2, y3, y4, y5⟩ := boxf Y1.out
  go_wp2_with fail
  refine (TY.out _ B1.out).mono ?_
  rintro e w2 ⟨rfl, b2⟩
  have B2 := Lib.hid (blw B1.out b2)
  have X2 := Lib.hid (X1.out.below b2)
  have Y2 := Lib.hid (Y1.out.below b2)
  clear b2
  clear x1 x2 x3 x4 x5 y1 y2 y3 y4 y5
  obtain ⟨x1, x2, x3, x4, x5⟩ := boxf X2.out
  obtain ⟨y1, y2, y3, y4, y5⟩ := boxf Y2.out
  go_wp2_with fail
  refine (N.out _ B2.out).mono ?_
  rintro e w3 ⟨rfl, b3⟩
  have B3 := Lib.hid (blw B2.out b3)
  have X3 := Lib.hid (X2.out.below b3)
  have Y3 := Lib.hid (Y2.out.below b3)
  clear b3
  clear x1 x2 x3 x4 x5 y1 y2 y3 y4 y5
  obtain ⟨x1, x2, x3, x4, x5⟩ := boxf X3.out
  obtain ⟨y1, y2, y3, y4, y5⟩ := boxf Y3.out
  go_wp2_with fail
  refine (E.out _ B3.out).mono ?_
  rintro e w4 ⟨rfl, b4⟩
  have B4 := Lib.hid (blw B3.out b4)
  have X4 := Lib.hid (X3.out.below b4)
  have Y4 := Lib.hid (Y3.out.below b4)
  clear b4
  clear x1 x2 x3 x4 x5 y1 y2 y3 y4 y5
  obtain ⟨x1, x2, x3, x4, x5⟩ := boxf X4.out
  obtain ⟨y1, y2, y3, y4, y5⟩ := boxf Y4.out
  go_wp2_with fail
  refine (M.out _ B4.out).mono ?_
  rintro e w5 ⟨rfl, b5⟩
  have B5 := Lib.hid (blw B4.out b5)
  have X5 := Lib.hid (X4.out.below b5)
  have Y5 := Lib.hid (Y4.out.below b5)
  clear b5
  clear x1 x2 x3 x4 x5 y1 y2 y3 y4 y5
  obtain ⟨x1, x2, x3, x4, x5⟩ := boxf X5.out
  obtain ⟨y1, y2, y3, y4, y5⟩ := boxf Y5.out
  go_wp2_with fail
  refine (A.out _ B5.out).mono ?_
  rintro e w6 ⟨rfl, b6⟩
  have B6 := Lib.hid (blw B5.out b6)
  have X6 := Lib.hid (X5.out.below b6)
  have Y6 := Lib.hid (Y5.out.below b6)
  clear b6
  clear x1 x2 x3 x4 x5 y1 y2 y3 y4 y5
  go_wp2
  go_ret
  exact ⟨rfl, B6.out⟩
set_option maxRecDepth 100000 in
set_option maxHeartbeats 4000000 in
theorem back_one (f a g b : Int) (hf : 0 ≤ f) (ha : isW a) (hg' : 0 ≤ g) (hb : isW b) (hx : ex f a = true) (hy : ex g b = false) (w : World) (hg : Good w) :
    Calls Tryd.prog 6 #[.agg #[.int .u8 f, .int .i32 a], .agg #[.int .u8 g, .int .i32 b]] w fun e w' => e = .returned (.bool true) ∧ Below w.heap.size w w' := by
  have e2 : txE f a = 0 := by unfold txE; rw [if_pos hx]
  obtain ⟨d1, d2⟩ := tx_no hy
  have TX := Lib.hid (tx_at hg hf ha (l := txL f a) rfl e2)
  have TY := Lib.hid (tx_at hg hg' hb d1 d2)
  have N := Lib.hid (name_at hg hf ha hx)
  have E := Lib.hid (eff_at hg hf ha (x := tk f a) (y := lv f a) rfl rfl hx)
  have M := Lib.hid (may_at hg hf ha hx)
  have R := Lib.hid (rdl_at hg (l := txL f a) (by have := tx_len hf ha; omega) (rd_tx hf ha hx))
  have A := Lib.hid (awake_at hg)
  generalize txL f a = t at *
  generalize nm f a = n at *
  generalize tk f a = u at *
  generalize lv f a = v at *
  clear hg hx hy e2 d1 d2 hf ha hg' hb
  go_enter Tryd.func6, Tryd.ntmps6
  have B0 := Lib.hid (bal (bal (b0 w) (.cells #[.int .u8 f, .int .i32 a] 23)) (.cells #[.int .u8 g, .int .i32 b] 23))
  have X0 := Lib.hid ((boxS_new w 23 #[.int .u8 f, .int .i32 a]).grown (World.grownBy_alloc _ (.cells #[.int .u8 g, .int .i32 b] 23) none))
  have Y0 := Lib.hid (by have h := boxS_new (w.alloc (.cells #[.int .u8 f, .int .i32 a] 23)) 23 #[.int .u8 g, .int .i32 b]; rw [World.size_alloc] at h; exact h : BoxS ((w.alloc (.cells #[.int .u8 f, .int .i32 a] 23)).alloc (.cells #[.int .u8 g, .int .i32 b] 23)) (w.heap.size + 1) 23 #[.int .u8 g, .int .i32 b])
  go_wp2_with fail
  refine (TX.out _ B0.out).mono ?_
  rintro e w1 ⟨rfl, b1⟩
  have B1 := Lib.hid (blw B0.out b1)
  have X1 := Lib.hid (X0.out.below b1)
  have Y1 := Lib.hid (Y0.out.below b1)
  clear b1
  obtain ⟨x1, x2, x3, x4, x5⟩ := boxf X1.out
  obtain ⟨y1, y2, y3, y4, y5⟩ := boxf Y1.out
  go_wp2_with fail
  refine (TY.out _ B1.out).mono ?_
  rintro e w2 ⟨rfl, b2⟩
  have B2 := Lib.hid (blw B1.out b2)
  have X2 := Lib.hid (X1.out.below b2)
  have Y2 := Lib.hid (Y1.out.below b2)
  clear b2
  clear x1 x2 x3 x4 x5 y1 y2 y3 y4 y5
  obtain ⟨x1, x2, x3, x4, x5⟩ := boxf X2.out
  obtain ⟨y1, y2, y3, y4, y5⟩ := boxf Y2.out
  go_wp2_with fail
  refine (N.out _ B2.out).mono ?_
  rintro e w3 ⟨rfl, b3⟩
  have B3 := Lib.hid (blw B2.out b3)
  have X3 := Lib.hid (X2.out.below b3)
  have Y3 := Lib.hid (Y2.out.below b3)
  clear b3
  clear x1 x2 x3 x4 x5 y1 y2 y3 y4 y5
  obtain ⟨x1, x2, x3, x4, x5⟩ := boxf X3.out
  obtain ⟨y1, y2, y3, y4, y5⟩ := boxf Y3.out
  go_wp2_with fail
  refine (E.out _ B3.out).mono ?_
  rintro e w4 ⟨rfl, b4⟩
  have B4 := Lib.hid (blw B3.out b4)
  have X4 := Lib.hid (X3.out.below b4)
  have Y4 := Lib.hid (Y3.out.below b4)
  clear b4
  clear x1 x2 x3 x4 x5 y1 y2 y3 y4 y5
  obtain ⟨x1, x2, x3, x4, x5⟩ := boxf X4.out
  obtain ⟨y1, y2, y3, y4, y5⟩ := boxf Y4.out
  go_wp2_with fail
  refine (M.out _ B4.out).mono ?_
  rintro e w5 ⟨rfl, b5⟩
  have B5 := Lib.hid (blw B4.out b5)
  have X5 := Lib.hid (X4.out.below b5)
  have Y5 := Lib.hid (Y4.out.below b5)
  clear b5
  clear x1 x2 x3 x4 x5 y1 y2 y3 y4 y5
  obtain ⟨x1, x2, x3, x4, x5⟩ := boxf X5.out
  obtain ⟨y1, y2, y3, y4, y5⟩ := boxf Y5.out
  go_wp2_with fail
  refine (R.out _ B5.out).mono ?_
  rintro e w6 ⟨rfl, b6⟩
  have B6 := Lib.hid (bal (blw B5.out b6) (.cells #[.int .u8 f, .int .i32 a] 23))
  have X6 := Lib.hid ((X5.out.below b6).grown (World.grownBy_alloc _ (.cells #[.int .u8 f, .int .i32 a] 23) none))
  have Y6 := Lib.hid ((Y5.out.below b6).grown (World.grownBy_alloc _ (.cells #[.int .u8 f, .int .i32 a] 23) none))
  clear b6
  clear x1 x2 x3 x4 x5 y1 y2 y3 y4 y5
  obtain ⟨x1, x2, x3, x4, x5⟩ := boxf X6.out
  obtain ⟨y1, y2, y3, y4, y5⟩ := boxf Y6.out
  go_wp2_with fail
  refine (A.out _ B6.out).mono ?_
  rintro e w7 ⟨rfl, b7⟩
  have B7 := Lib.hid (blw B6.out b7)
  have X7 := Lib.hid (X6.out.below b7)
  have Y7 := Lib.hid (Y6.out.below b7)
  clear b7
  clear x1 x2 x3 x4 x5 y1 y2 y3 y4 y5
  go_wp2
  go_ret
  exact ⟨rfl, B7.out⟩
set_option maxRecDepth 100000 in
set_option maxHeartbeats 4000000 in
theorem back_same (f a : Int) (hf : 0 ≤ f) (ha : isW a) (hx : ex f a = true) (w : World) (hg : Good w) :
    Calls Tryd.prog 6 #[.agg #[.int .u8 f, .int .i32 a], .agg #[.int .u8 f, .int .i32 a]] w fun e w' => e = .returned (.bool true) ∧ Below w.heap.size w w' := by
  have e2 : txE f a = 0 := by unfold txE; rw [if_pos hx]
  have TX := Lib.hid (tx_at hg hf ha (l := txL f a) rfl e2)
  have TY := TX
  have N := Lib.hid (name_at hg hf ha hx)
  have E := Lib.hid (eff_at hg hf ha (x := tk f a) (y := lv f a) rfl rfl hx)
  have M := Lib.hid (may_at hg hf ha hx)
  have R := Lib.hid (rdl_at hg (l := txL f a) (by have := tx_len hf ha; omega) (rd_tx hf ha hx))
  have A := Lib.hid (awake_at hg)
  have hq := same_str (txL f a)
  generalize txL f a = t at *
  generalize nm f a = n at *
  generalize tk f a = u at *
  generalize lv f a = v at *
  clear hg hx e2 hf ha
  go_enter Tryd.func6, Tryd.ntmps6
  have B0 := Lib.hid (bal (bal (b0 w) (.cells #[.int .u8 f, .int .i32 a] 23)) (.cells #[.int .u8 f, .int .i32 a] 23))
  have X0 := Lib.hid ((boxS_new w 23 #[.int .u8 f, .int .i32 a]).grown (World.grownBy_alloc _ (.cells #[.int .u8 f, .int .i32 a] 23) none))
  have Y0 := Lib.hid (by have h := boxS_new (w.alloc (.cells #[.int .u8 f, .int .i32 a] 23)) 23 #[.int .u8 f, .int .i32 a]; rw [World.size_alloc] at h; exact h : BoxS ((w.alloc (.cells #[.int .u8 f, .int .i32 a] 23)).alloc (.cells #[.int .u8 f, .int .i32 a] 23)) (w.heap.size + 1) 23 #[.int .u8 f, .int .i32 a])
  go_wp2_with fail
  refine (TX.out _ B0.out).mono ?_
  rintro e w1 ⟨rfl, b1⟩
  have B1 := Lib.hid (blw B0.out b1)
  have X1 := Lib.hid (X0.out.below b1)
  have Y1 := Lib.hid (Y0.out.below b1)
  clear b1
  obtain ⟨x1, x2, x3, x4, x5⟩ := boxf X1.out
  obtain ⟨y1, y2, y3, y4, y5⟩ := boxf Y1.out
  go_wp2_with fail
  refine (TY.out _ B1.out).mono ?_
  rintro e w2 ⟨rfl, b2⟩
  have B2 := Lib.hid (blw B1.out b2)
  have X2 := Lib.hid (X1.out.below b2)
  have Y2 := Lib.hid (Y1.out.below b2)
  clear b2
  clear x1 x2 x3 x4 x5 y1 y2 y3 y4 y5
  obtain ⟨x1, x2, x3, x4, x5⟩ := boxf X2.out
  obtain ⟨y1, y2, y3, y4, y5⟩ := boxf Y2.out
  go_wp2_with fail
  refine (N.out _ B2.out).mono ?_
  rintro e w3 ⟨rfl, b3⟩
  have B3 := Lib.hid (blw B2.out b3)
  have X3 := Lib.hid (X2.out.below b3)
  have Y3 := Lib.hid (Y2.out.below b3)
  clear b3
  clear x1 x2 x3 x4 x5 y1 y2 y3 y4 y5
  obtain ⟨x1, x2, x3, x4, x5⟩ := boxf X3.out
  obtain ⟨y1, y2, y3, y4, y5⟩ := boxf Y3.out
  go_wp2_with fail
  refine (E.out _ B3.out).mono ?_
  rintro e w4 ⟨rfl, b4⟩
  have B4 := Lib.hid (blw B3.out b4)
  have X4 := Lib.hid (X3.out.below b4)
  have Y4 := Lib.hid (Y3.out.below b4)
  clear b4
  clear x1 x2 x3 x4 x5 y1 y2 y3 y4 y5
  obtain ⟨x1, x2, x3, x4, x5⟩ := boxf X4.out
  obtain ⟨y1, y2, y3, y4, y5⟩ := boxf Y4.out
  go_wp2_with fail
  refine (M.out _ B4.out).mono ?_
  rintro e w5 ⟨rfl, b5⟩
  have B5 := Lib.hid (blw B4.out b5)
  have X5 := Lib.hid (X4.out.below b5)
  have Y5 := Lib.hid (Y4.out.below b5)
  clear b5
  clear x1 x2 x3 x4 x5 y1 y2 y3 y4 y5
  obtain ⟨x1, x2, x3, x4, x5⟩ := boxf X5.out
  obtain ⟨y1, y2, y3, y4, y5⟩ := boxf Y5.out
  go_wp2_with fail
  refine (R.out _ B5.out).mono ?_
  rintro e w6 ⟨rfl, b6⟩
  have B6 := Lib.hid (bal (blw B5.out b6) (.cells #[.int .u8 f, .int .i32 a] 23))
  have X6 := Lib.hid ((X5.out.below b6).grown (World.grownBy_alloc _ (.cells #[.int .u8 f, .int .i32 a] 23) none))
  have Y6 := Lib.hid ((Y5.out.below b6).grown (World.grownBy_alloc _ (.cells #[.int .u8 f, .int .i32 a] 23) none))
  clear b6
  clear x1 x2 x3 x4 x5 y1 y2 y3 y4 y5
  obtain ⟨x1, x2, x3, x4, x5⟩ := boxf X6.out
  obtain ⟨y1, y2, y3, y4, y5⟩ := boxf Y6.out
  go_wp2_with fail
  refine (A.out _ B6.out).mono ?_
  rintro e w7 ⟨rfl, b7⟩
  have B7 := Lib.hid (blw B6.out b7)
  have X7 := Lib.hid (X6.out.below b7)
  have Y7 := Lib.hid (Y6.out.below b7)
  clear b7
  clear x1 x2 x3 x4 x5 y1 y2 y3 y4 y5
  go_wp2
  go_ret
  exact ⟨rfl, B7.out⟩
set_option maxRecDepth 100000 in
set_option maxHeartbeats 4000000 in
theorem back_two_f (f a g b : Int) (hf : 0 ≤ f) (ha : isW a) (hg' : 0 ≤ g) (hb : isW b) (hx : ex f a = true) (hy : ex g b = true) (hfg : f ≠ g) (w : World) (hg : Good w) :
    Calls Tryd.prog 6 #[.agg #[.int .u8 f, .int .i32 a], .agg #[.int .u8 g, .int .i32 b]] w fun e w' => e = .returned (.bool true) ∧ Below w.heap.size w w' := by
  have hne : ¬ (f = g ∧ a = b) := fun h => hfg h.1
  have hq1 : (f == g) = false := by simpa using hfg
  have e2 : txE f a = 0 := by unfold txE; rw [if_pos hx]
  have d2 : txE g b = 0 := by unfold txE; rw [if_pos hy]
  have TX := Lib.hid (tx_at hg hf ha (l := txL f a) rfl e2)
  have TY := Lib.hid (tx_at hg hg' hb (l := txL g b) rfl d2)
  have N := Lib.hid (name_at hg hf ha hx)
  have E := Lib.hid (eff_at hg hf ha (x := tk f a) (y := lv f a) rfl rfl hx)
  have M := Lib.hid (may_at hg hf ha hx)
  have R := Lib.hid (rdl_at hg (l := txL f a) (by have := tx_len hf ha; omega) (rd_tx hf ha hx))
  have A := Lib.hid (awake_at hg)
  have hq : ((strOf (txL f a)).toList == (strOf (txL g b)).toList) = false := other_str (fun h => by
    have h1 := rd_tx hf ha hx
    rw [h, rd_tx hg' hb hy] at h1
    injection h1 with k1 k2
    injection k2 with k2 _
    exact hne ⟨k1.symm, k2.symm⟩)
  generalize txL f a = t at *
  generalize txL g b = t' at *
  generalize nm f a = n at *
  generalize tk f a = u at *
  generalize lv f a = v at *
  clear hg hx hy e2 d2 hf ha hg' hb hne
  clear hfg
  go_enter Tryd.func6, Tryd.ntmps6
  have B0 := Lib.hid (bal (bal (b0 w) (.cells #[.int .u8 f, .int .i32 a] 23)) (.cells #[.int .u8 g, .int .i32 b] 23))
  have X0 := Lib.hid ((boxS_new w 23 #[.int .u8 f, .int .i32 a]).grown (World.grownBy_alloc _ (.cells #[.int .u8 g, .int .i32 b] 23) none))
  have Y0 := Lib.hid (by have h := boxS_new (w.alloc (.cells #[.int .u8 f, .int .i32 a] 23)) 23 #[.int .u8 g, .int .i32 b]; rw [World.size_alloc] at h; exact h : BoxS ((w.alloc (.cells #[.int .u8 f, .int .i32 a] 23)).alloc (.cells #[.int .u8 g, .int .i32 b] 23)) (w.heap.size + 1) 23 #[.int .u8 g, .int .i32 b])
  go_wp2_with fail
  refine (TX.out _ B0.out).mono ?_
  rintro e w1 ⟨rfl, b1⟩
  have B1 := Lib.hid (blw B0.out b1)
  have X1 := Lib.hid (X0.out.below b1)
  have Y1 := Lib.hid (Y0.out.below b1)
  clear b1
  obtain ⟨x1, x2, x3, x4, x5⟩ := boxf X1.out
  obtain ⟨y1, y2, y3, y4, y5⟩ := boxf Y1.out
  go_wp2_with fail
  refine (TY.out _ B1.out).mono ?_
  rintro e w2 ⟨rfl, b2⟩
  have B2 := Lib.hid (blw B1.out b2)
  have X2 := Lib.hid (X1.out.below b2)
  have Y2 := Lib.hid (Y1.out.below b2)
  clear b2
  clear x1 x2 x3 x4 x5 y1 y2 y3 y4 y5
  obtain ⟨x1, x2, x3, x4, x5⟩ := boxf X2.out
  obtain ⟨y1, y2, y3, y4, y5⟩ := boxf Y2.out
  go_wp2_with fail
  refine (N.out _ B2.out).mono ?_
  rintro e w3 ⟨rfl, b3⟩
  have B3 := Lib.hid (blw B2.out b3)
  have X3 := Lib.hid (X2.out.below b3)
  have Y3 := Lib.hid (Y2.out.below b3)
  clear b3
  clear x1 x2 x3 x4 x5 y1 y2 y3 y4 y5
  obtain ⟨x1, x2, x3, x4, x5⟩ := boxf X3.out
  obtain ⟨y1, y2, y3, y4, y5⟩ := boxf Y3.out
  go_wp2_with fail
  refine (E.out _ B3.out).mono ?_
  rintro e w4 ⟨rfl, b4⟩
  have B4 := Lib.hid (blw B3.out b4)
  have X4 := Lib.hid (X3.out.below b4)
  have Y4 := Lib.hid (Y3.out.below b4)
  clear b4
  clear x1 x2 x3 x4 x5 y1 y2 y3 y4 y5
  obtain ⟨x1, x2, x3, x4, x5⟩ := boxf X4.out
  obtain ⟨y1, y2, y3, y4, y5⟩ := boxf Y4.out
  go_wp2_with fail
  refine (M.out _ B4.out).mono ?_
  rintro e w5 ⟨rfl, b5⟩
  have B5 := Lib.hid (blw B4.out b5)
  have X5 := Lib.hid (X4.out.below b5)
  have Y5 := Lib.hid (Y4.out.below b5)
  clear b5
  clear x1 x2 x3 x4 x5 y1 y2 y3 y4 y5
  obtain ⟨x1, x2, x3, x4, x5⟩ := boxf X5.out
  obtain ⟨y1, y2, y3, y4, y5⟩ := boxf Y5.out
  go_wp2_with fail
  refine (R.out _ B5.out).mono ?_
  rintro e w6 ⟨rfl, b6⟩
  have B6 := Lib.hid (bal (blw B5.out b6) (.cells #[.int .u8 f, .int .i32 a] 23))
  have X6 := Lib.hid ((X5.out.below b6).grown (World.grownBy_alloc _ (.cells #[.int .u8 f, .int .i32 a] 23) none))
  have Y6 := Lib.hid ((Y5.out.below b6).grown (World.grownBy_alloc _ (.cells #[.int .u8 f, .int .i32 a] 23) none))
  clear b6
  clear x1 x2 x3 x4 x5 y1 y2 y3 y4 y5
  obtain ⟨x1, x2, x3, x4, x5⟩ := boxf X6.out
  obtain ⟨y1, y2, y3, y4, y5⟩ := boxf Y6.out
  go_wp2_with fail
  refine (A.out _ B6.out).mono ?_
  rintro e w7 ⟨rfl, b7⟩
  have B7 := Lib.hid (blw B6.out b7)
  have X7 := Lib.hid (X6.out.below b7)
  have Y7 := Lib.hid (Y6.out.below b7)
  clear b7
  clear x1 x2 x3 x4 x5 y1 y2 y3 y4 y5
  go_wp2
  go_ret
  exact ⟨rfl, B7.out⟩
set_option maxRecDepth 100000 in
set_option maxHeartbeats 4000000 in
theorem back_two_a (f a b : Int) (hf : 0 ≤ f) (ha : isW a) (hb : isW b) (hx : ex f a = true) (hy : ex f b = true) (hab : a ≠ b) (w : World) (hg : Good w) :
    Calls Tryd.prog 6 #[.agg #[.int .u8 f, .int .i32 a], .agg #[.int .u8 f, .int .i32 b]] w fun e w' => e = .returned (.bool true) ∧ Below w.heap.size w w' := by
  have hne : ¬ (f = f ∧ a = b) := fun h => hab h.2
  have hq1 : (a == b) = false := by simpa using hab
  have e2 : txE f a = 0 := by unfold txE; rw [if_pos hx]
  have d2 : txE f b = 0 := by unfold txE; rw [if_pos hy]
  have TX := Lib.hid (tx_at hg hf ha (l := txL f a) rfl e2)
  have TY := Lib.hid (tx_at hg hf hb (l := txL f b) rfl d2)
  have N := Lib.hid (name_at hg hf ha hx)
  have E := Lib.hid (eff_at hg hf ha (x := tk f a) (y := lv f a) rfl rfl hx)
  have M := Lib.hid (may_at hg hf ha hx)
  have R := Lib.hid (rdl_at hg (l := txL f a) (by have := tx_len hf ha; omega) (rd_tx hf ha hx))
  have A := Lib.hid (awake_at hg)
  have hq : ((strOf (txL f a)).toList == (strOf (txL f b)).toList) = false := other_str (fun h => by
    have h1 := rd_tx hf ha hx
    rw [h, rd_tx hf hb hy] at h1
    injection h1 with k1 k2
    injection k2 with k2 _
    exact hne ⟨k1.symm, k2.symm⟩)
  generalize txL f a = t at *
  generalize txL f b = t' at *
  generalize nm f a = n at *
  generalize tk f a = u at *
  generalize lv f a = v at *
  clear hg hx hy e2 d2 hf ha hb hne
  clear hab
  go_enter Tryd.func6, Tryd.ntmps6
  have B0 := Lib.hid (bal (bal (b0 w) (.cells #[.int .u8 f, .int .i32 a] 23)) (.cells #[.int .u8 f, .int .i32 b] 23))
  have X0 := Lib.hid ((boxS_new w 23 #[.int .u8 f, .int .i32 a]).grown (World.grownBy_alloc _ (.cells #[.int .u8 f, .int .i32 b] 23) none))
  have Y0 := Lib.hid (by have h := boxS_new (w.alloc (.cells #[.int .u8 f, .int .i32 a] 23)) 23 #[.int .u8 f, .int .i32 b]; rw [World.size_alloc] at h; exact h : BoxS ((w.alloc (.cells #[.int .u8 f, .int .i32 a] 23)).alloc (.cells #[.int .u8 f, .int .i32 b] 23)) (w.heap.size + 1) 23 #[.int .u8 f, .int .i32 b])
  go_wp2_with fail
  refine (TX.out _ B0.out).mono ?_
  rintro e w1 ⟨rfl, b1⟩
  have B1 := Lib.hid (blw B0.out b1)
  have X1 := Lib.hid (X0.out.below b1)
  have Y1 := Lib.hid (Y0.out.below b1)
  clear b1
  obtain ⟨x1, x2, x3, x4, x5⟩ := boxf X1.out
  obtain ⟨y1, y2, y3, y4, y5⟩ := boxf Y1.out
  go_wp2_with fail
  refine (TY.out _ B1.out).mono ?_
  rintro e w2 ⟨rfl, b2⟩
  have B2 := Lib.hid (blw B1.out b2)
  have X2 := Lib.hid (X1.out.below b2)
  have Y2 := Lib.hid (Y1.out.below b2)
  clear b2
  clear x1 x2 x3 x4 x5 y1 y2 y3 y4 y5
  obtain ⟨x1, x2, x3, x4, x5⟩ := boxf X2.out
  obtain ⟨y1, y2, y3, y4, y5⟩ := boxf Y2.out
  go_wp2_with fail
  refine (N.out _ B2.out).mono ?_
  rintro e w3 ⟨rfl, b3⟩
  have B3 := Lib.hid (blw B2.out b3)
  have X3 := Lib.hid (X2.out.below b3)
  have Y3 := Lib.hid (Y2.out.below b3)
  clear b3
  clear x1 x2 x3 x4 x5 y1 y2 y3 y4 y5
  obtain ⟨x1, x2, x3, x4, x5⟩ := boxf X3.out
  obtain ⟨y1, y2, y3, y4, y5⟩ := boxf Y3.out
  go_wp2_with fail
  refine (E.out _ B3.out).mono ?_
  rintro e w4 ⟨rfl, b4⟩
  have B4 := Lib.hid (blw B3.out b4)
  have X4 := Lib.hid (X3.out.below b4)
  have Y4 := Lib.hid (Y3.out.below b4)
  clear b4
  clear x1 x2 x3 x4 x5 y1 y2 y3 y4 y5
  obtain ⟨x1, x2, x3, x4, x5⟩ := boxf X4.out
  obtain ⟨y1, y2, y3, y4, y5⟩ := boxf Y4.out
  go_wp2_with fail
  refine (M.out _ B4.out).mono ?_
  rintro e w5 ⟨rfl, b5⟩
  have B5 := Lib.hid (blw B4.out b5)
  have X5 := Lib.hid (X4.out.below b5)
  have Y5 := Lib.hid (Y4.out.below b5)
  clear b5
  clear x1 x2 x3 x4 x5 y1 y2 y3 y4 y5
  obtain ⟨x1, x2, x3, x4, x5⟩ := boxf X5.out
  obtain ⟨y1, y2, y3, y4, y5⟩ := boxf Y5.out
  go_wp2_with fail
  refine (R.out _ B5.out).mono ?_
  rintro e w6 ⟨rfl, b6⟩
  have B6 := Lib.hid (bal (blw B5.out b6) (.cells #[.int .u8 f, .int .i32 a] 23))
  have X6 := Lib.hid ((X5.out.below b6).grown (World.grownBy_alloc _ (.cells #[.int .u8 f, .int .i32 a] 23) none))
  have Y6 := Lib.hid ((Y5.out.below b6).grown (World.grownBy_alloc _ (.cells #[.int .u8 f, .int .i32 a] 23) none))
  clear b6
  clear x1 x2 x3 x4 x5 y1 y2 y3 y4 y5
  obtain ⟨x1, x2, x3, x4, x5⟩ := boxf X6.out
  obtain ⟨y1, y2, y3, y4, y5⟩ := boxf Y6.out
  go_wp2_with fail
  refine (A.out _ B6.out).mono ?_
  rintro e w7 ⟨rfl, b7⟩
  have B7 := Lib.hid (blw B6.out b7)
  have X7 := Lib.hid (X6.out.below b7)
  have Y7 := Lib.hid (Y6.out.below b7)
  clear b7
  clear x1 x2 x3 x4 x5 y1 y2 y3 y4 y5
  go_wp2
  go_ret
  exact ⟨rfl, B7.out⟩
theorem walkInstrBack (f0 b0 : Int) (wf0 : (Lit.int .u8 f0).wf = true) (wb0 : (Lit.int .i32 b0).wf = true) (f1 b1 : Int) (wf1 : (Lit.int .u8 f1).wf = true) (wb1 : (Lit.int .i32 b1).wf = true) (w : World) (hg : Good w) :
    Calls Tryd.prog 6 #[.agg #[.int .u8 f0, .int .i32 b0], .agg #[.int .u8 f1, .int .i32 b1]] w fun e w' => e = .returned (.bool true) ∧ Below w.heap.size w w' := by
  have hf := (u8_of_wf wf0).1
  have ha := isW_of_wf wb0
  have hf' := (u8_of_wf wf1).1
  have ha' := isW_of_wf wb1
  cases hx : ex f0 b0
  · exact back_no f0 b0 f1 b1 hf ha hf' ha' hx w hg
  · cases hy : ex f1 b1
    · exact back_one f0 b0 f1 b1 hf ha hf' ha' hx hy w hg
    · by_cases h1 : f0 = f1
      · subst h1
        by_cases h2 : b0 = b1
        · subst h2
          exact back_same f0 b0 hf ha hx w hg
        · exact back_two_a f0 b0 b1 hf ha ha' hx hy h2 w hg
      · exact back_two_f f0 b0 f1 b1 hf ha hf' ha' hx hy h1 w hg
end Go.Proofs.YtlockfoidhndeaaDoor
