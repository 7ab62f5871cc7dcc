/- The law on texts that are refused returns true. -/
import Derived.Test.YtlockfoidhndeaaDoorLawsD
import Derived.Shelf.LaysM
namespace Go.Proofs.YtlockfoidhndeaaDoor
open Go Go.RowKit

/-- The library's variable holds some number. -/
def MaxIs (w : World) : Prop := ∃ m : Int, w.cell? ⟨3, 0, none⟩ = some (.int .i64 m)
theorem max_of_shape {w : World} (h : w.ShapedOpen Tryd.prog) : MaxIs w :=
  Go.Proofs.cell_of_shapedOpen_int (zero := #[.int .i64 0]) (t := 3) h (of_decide_eq_true (by kernel_rfl)) (by kernel_rfl) rfl (by kernel_rfl) (by kernel_rfl) Tryd.underlying3
theorem MaxIs.below {w w' : World} (h : MaxIs w) (b : Below w.heap.size w w') : MaxIs w' := by
  obtain ⟨m, hm⟩ := h
  exact ⟨m, (b.cell (p := ⟨3, 0, none⟩) (g_lt hm)).trans hm⟩
theorem countFrom_le (sub : List UInt8) : ∀ (fuel : Nat) (s : List UInt8), Lib.countFrom sub fuel s ≤ fuel
  | 0, _ => Nat.le_refl _
  | fuel + 1, s => by
    unfold Lib.countFrom
    split
    · omega
    · have := countFrom_le sub fuel (s.drop ((Lib.index s sub).toNat + sub.length)); omega
theorem replace_at {w : World} (hm : MaxIs w) {n t : List UInt8} (hs : n.length + t.length ≤ 1000) (hc : ∀ c ∈ n, c ≠ 32) (W : World) (b : Below w.heap.size w W) :
    Calls Tryd.prog 27 #[.string (strOf (n ++ 32 :: t)), .string ⟨#[32]⟩, .string ⟨#[32, 32]⟩, .int .i64 1] W fun e w' => e = .returned (.string (strOf (n ++ 32 :: 32 :: t))) ∧ Below W.heap.size W w' := by
  obtain ⟨m, h0⟩ := hm.below b
  have hl : (strOf (n ++ 32 :: t)).size ≤ 1001 := by rw [strOf_size]; simp; omega
  have hk : Lib.countB (strOf (n ++ 32 :: t)) ⟨#[32]⟩ ≤ 1002 := by
    show Lib.count (strOf (n ++ 32 :: t)).data.toList [32] ≤ 1002
    rw [strOf_data]
    have := countFrom_le [32] ((n ++ 32 :: t).length + 1) (n ++ 32 :: t)
    unfold Lib.count
    have h2 : (n ++ 32 :: t).length ≤ 1001 := by simp; omega
    omega
  have h := Tryd.strings_Replace (strOf (n ++ 32 :: t)) ⟨#[32]⟩ ⟨#[32, 32]⟩ 1 m W (by omega) h0 (by decide) (by
    show _ + Lib.countB (strOf (n ++ 32 :: t)) ⟨#[32]⟩ * 2 ≤ _
    omega)
  rw [strOf_data, show Lib.replace (n ++ 32 :: t) (⟨#[32]⟩ : ByteArray).data.toList (⟨#[32, 32]⟩ : ByteArray).data.toList 1 = n ++ 32 :: 32 :: t from replace_sp n t hc] at h
  exact h
theorem fails_l {w : World} (hg : Good w) {l : List UInt8} (hs : l.length ≤ 1000) {e : Int} (h : rdI l = (0, 0, e)) (W : World) (b : Below w.heap.size w W) :
    Calls Tryd.prog 25 #[.string (strOf l), .int .i64 e] W fun x w' => x = .returned (.bool true) ∧ Below W.heap.size W w' := fails_at hg (str_sz hs) (by rw [strOf_data]; exact h) W b
set_option maxRecDepth 100000 in
set_option maxHeartbeats 4000000 in
theorem wrong_none (f a v : Int) (hf : 0 ≤ f) (ha : isW a) (hx : ex f a = false) (w : World) (hg : Good w) :
    Calls Tryd.prog 10 #[.agg #[.int .u8 f, .int .i32 a], .int .i32 v] w fun e w' => e = .returned (.bool true) ∧ Below w.heap.size w w' := by
  obtain ⟨e1, e2⟩ := tx_no hx
  have T := Lib.hid (tx_at hg hf ha e1 e2)
  have A := Lib.hid (awake_at hg)
  clear hg hx hf ha e1 e2
  go_enter Tryd.func10, Tryd.ntmps10
  have B0 := Lib.hid (bal (b0 w) (.cells #[.int .u8 f, .int .i32 a] 23))
  have X0 := Lib.hid (boxS_new w 23 #[.int .u8 f, .int .i32 a])
  go_wp2_with fail
  refine (T.out _ B0.out).mono ?_
  rintro e w1 ⟨rfl, b1⟩
  clear X0
  have B1 := Lib.hid (blw B0.out b1)
  clear b1
  go_wp2_with fail
  refine (A.out _ B1.out).mono ?_
  rintro e w2 ⟨rfl, b2⟩
  have B2 := Lib.hid (blw B1.out b2)
  clear b2
  go_wp2
  go_ret
  exact ⟨rfl, B2.out⟩
set_option maxRecDepth 100000 in
set_option maxHeartbeats 4000000 in
theorem wrong_op (a v : Int) (ha : isW a) (hx : ex 15 a = true) (hv : isW v) (w : World) (hg : Good w) :
    Calls Tryd.prog 10 #[.agg #[.int .u8 15, .int .i32 a], .int .i32 v] w fun e w' => e = .returned (.bool true) ∧ Below w.heap.size w w' := by
  obtain ⟨hfi, hc, hl, hu, hle, _⟩ := ex_facts (by decide) hx
  have e2 : txE 15 a = 0 := by unfold txE; rw [if_pos hx]
  have lt := tx_len (f := 15) (a := a) (by decide) ha
  have T := Lib.hid (tx_at hg (by decide) ha (l := txL 15 a) rfl e2)
  have N := Lib.hid (name_at hg (by decide) ha hx)
  have A := Lib.hid (awake_at hg)
  have F1 := Lib.hid (fails_l hg (l := 32 :: txL 15 a) (by simp; omega) (rd_front _))
  have F2 := Lib.hid (fails_l hg (l := txL 15 a ++ [32]) (by simp; omega) (rd_behind (by decide) hx))
  have U := Lib.hid (upper_at (n := nm 15 a) (by omega) (fun c h => (hc c h).2))
  have F3 := Lib.hid (fails_l hg (l := Lib.toUpperA (nm 15 a)) (by unfold Lib.toUpperA; rw [List.length_map]; omega) (rd_upper (by decide) hx))
  have k1 := cat_str [32] (txL 15 a) (by simp; omega)
  have k2 := cat_str (txL 15 a) [32] (by simp; omega)
  have k1' : Op.stringOp .add ⟨#[32]⟩ (strOf (txL 15 a)) = pure (.string (strOf (32 :: txL 15 a))) := k1
  have k2' : Op.stringOp .add (strOf (txL 15 a)) ⟨#[32]⟩ = pure (.string (strOf (txL 15 a ++ [32]))) := k2
  clear k1 k2
  have l2 := (text_len v false hv.1 hv.2).2
  have V := Lib.hid (wtext_at hg false hv)
  have F4 := Lib.hid (fails_l hg (l := nm 15 a ++ 32 :: textL v false) (by simp; omega) (rd_arg hx _))
  obtain ⟨k3, k4⟩ := hex_facts (n := nm 15 a) (t := textL v false) (by omega)
  generalize 32 :: txL 15 a = s1 at *
  generalize txL 15 a ++ [32] = s2 at *
  generalize Lib.toUpperA (nm 15 a) = up at *
  generalize nm 15 a ++ 32 :: textL v false = s4 at *
  generalize txL 15 a = s0 at *
  generalize nm 15 a = n at *
  generalize n ++ [32] = n1 at *
  generalize textL v false = t at *
  clear hg hx ha hv hfi hc hl hu hle e2 lt l2
  go_enter Tryd.func10, Tryd.ntmps10
  have B0 := Lib.hid (bal (b0 w) (.cells #[.int .u8 15, .int .i32 a] 23))
  have X0 := Lib.hid (boxS_new w 23 #[.int .u8 15, .int .i32 a])
  go_wp2_with fail
  refine (T.out _ B0.out).mono ?_
  rintro e w1 ⟨rfl, b1⟩
  have B1 := Lib.hid (blw B0.out b1)
  have X1 := Lib.hid (X0.out.below b1)
  clear b1
  obtain ⟨x1, x2, x3, x4, x5⟩ := boxf X1.out
  go_wp2_with fail
  refine (N.out _ B1.out).mono ?_
  rintro e w2 ⟨rfl, b2⟩
  have B2 := Lib.hid (blw B1.out b2)
  have X2 := Lib.hid (X1.out.below b2)
  clear b2
  clear x1 x2 x3 x4 x5
  obtain ⟨x1, x2, x3, x4, x5⟩ := boxf X2.out
  go_wp2_with fail
  refine (F1.out _ B2.out).mono ?_
  rintro e w3 ⟨rfl, b3⟩
  have B3 := Lib.hid (blw B2.out b3)
  have X3 := Lib.hid (X2.out.below b3)
  clear b3
  go_wp2_with fail
  refine (F2.out _ B3.out).mono ?_
  rintro e w4 ⟨rfl, b4⟩
  have B4 := Lib.hid (blw B3.out b4)
  have X4 := Lib.hid (X3.out.below b4)
  clear b4
  go_wp2_with fail
  refine (U.out _).mono ?_
  rintro e w5 ⟨rfl, b5⟩
  have B5 := Lib.hid (blw B4.out b5)
  have X5 := Lib.hid (X4.out.below b5)
  clear b5
  go_wp2_with fail
  refine (F3.out _ B5.out).mono ?_
  rintro e w6 ⟨rfl, b6⟩
  have B6 := Lib.hid (blw B5.out b6)
  have X6 := Lib.hid (X5.out.below b6)
  clear b6
  clear x1 x2 x3 x4 x5
  obtain ⟨x1, x2, x3, x4, x5⟩ := boxf X6.out
  go_wp2_with fail
  refine (V.out _ B6.out).mono ?_
  rintro e w7 ⟨rfl, b7⟩
  have B7 := Lib.hid (blw B6.out b7)
  clear b7
  go_wp2_with fail
  refine (F4.out _ B7.out).mono ?_
  rintro e w8 ⟨rfl, b8⟩
  have B8 := Lib.hid (blw B7.out b8)
  clear b8
  go_wp2_with fail
  refine (A.out _ B8.out).mono ?_
  rintro e w9 ⟨rfl, b9⟩
  have B9 := Lib.hid (blw B8.out b9)
  clear b9
  go_wp2
  go_ret
  exact ⟨rfl, B9.out⟩
set_option maxRecDepth 100000 in
set_option maxHeartbeats 4000000 in
theorem wrong_fn (f a v : Int) (hf : 0 ≤ f) (ha : isW a) (hx : ex f a = true) (h15 : f ≠ 15) (w : World) (hg : Good w) (hm : MaxIs w) :
    Calls Tryd.prog 10 #[.agg #[.int .u8 f, .int .i32 a], .int .i32 v] w fun e w' => e = .returned (.bool true) ∧ Below w.heap.size w w' := by
  have hq1 : (f == 15) = false := by simpa using h15
  obtain ⟨hfi, hc, hl, hu, hle, _⟩ := ex_facts hf hx
  have e2 : txE f a = 0 := by unfold txE; rw [if_pos hx]
  have lt := tx_len hf ha
  have T := Lib.hid (tx_at hg hf ha (l := txL f a) rfl e2)
  have N := Lib.hid (name_at hg hf ha hx)
  have A := Lib.hid (awake_at hg)
  have F1 := Lib.hid (fails_l hg (l := 32 :: txL f a) (by simp; omega) (rd_front _))
  have F2 := Lib.hid (fails_l hg (l := txL f a ++ [32]) (by simp; omega) (rd_behind hf hx))
  have U := Lib.hid (upper_at (n := nm f a) (by omega) (fun c h => (hc c h).2))
  have F3 := Lib.hid (fails_l hg (l := Lib.toUpperA (nm f a)) (by unfold Lib.toUpperA; rw [List.length_map]; omega) (rd_upper hf hx))
  have k1 := cat_str [32] (txL f a) (by simp; omega)
  have k2 := cat_str (txL f a) [32] (by simp; omega)
  have k1' : Op.stringOp .add ⟨#[32]⟩ (strOf (txL f a)) = pure (.string (strOf (32 :: txL f a))) := k1
  have k2' : Op.stringOp .add (strOf (txL f a)) ⟨#[32]⟩ = pure (.string (strOf (txL f a ++ [32]))) := k2
  clear k1 k2
  have l2 := (text_len a false ha.1 ha.2).2
  have F4 := Lib.hid (fails_l hg (l := nm f a) (by omega) (rd_bare hf hx h15))
  have R := replace_at hm (n := nm f a) (t := textL a false) (by omega) (fun c h => (hc c h).1)
  rw [← (tx_fn hx h15).1] at R
  have R := Lib.hid R
  have F5 := Lib.hid (fails_l hg (l := nm f a ++ 32 :: 32 :: textL a false) (by simp; omega) (rd_twice hf hx h15 _))
  generalize 32 :: txL f a = s1 at *
  generalize txL f a ++ [32] = s2 at *
  generalize Lib.toUpperA (nm f a) = up at *
  generalize nm f a ++ 32 :: 32 :: textL a false = s4 at *
  generalize txL f a = s0 at *
  generalize nm f a = n at *
  clear hg hx ha hm hfi hc hl hu hle e2 lt l2 hf h15
  go_enter Tryd.func10, Tryd.ntmps10
  have B0 := Lib.hid (bal (b0 w) (.cells #[.int .u8 f, .int .i32 a] 23))
  have X0 := Lib.hid (boxS_new w 23 #[.int .u8 f, .int .i32 a])
  go_wp2_with fail
  refine (T.out _ B0.out).mono ?_
  rintro e w1 ⟨rfl, b1⟩
  have B1 := Lib.hid (blw B0.out b1)
  have X1 := Lib.hid (X0.out.below b1)
  clear b1
  obtain ⟨x1, x2, x3, x4, x5⟩ := boxf X1.out
  go_wp2_with fail
  refine (N.out _ B1.out).mono ?_
  rintro e w2 ⟨rfl, b2⟩
  have B2 := Lib.hid (blw B1.out b2)
  have X2 := Lib.hid (X1.out.below b2)
  clear b2
  clear x1 x2 x3 x4 x5
  obtain ⟨x1, x2, x3, x4, x5⟩ := boxf X2.out
  go_wp2_with fail
  refine (F1.out _ B2.out).mono ?_
  rintro e w3 ⟨rfl, b3⟩
  have B3 := Lib.hid (blw B2.out b3)
  have X3 := Lib.hid (X2.out.below b3)
  clear b3
  go_wp2_with fail
  refine (F2.out _ B3.out).mono ?_
  rintro e w4 ⟨rfl, b4⟩
  have B4 := Lib.hid (blw B3.out b4)
  have X4 := Lib.hid (X3.out.below b4)
  clear b4
  go_wp2_with fail
  refine (U.out _).mono ?_
  rintro e w5 ⟨rfl, b5⟩
  have B5 := Lib.hid (blw B4.out b5)
  have X5 := Lib.hid (X4.out.below b5)
  clear b5
  go_wp2_with fail
  refine (F3.out _ B5.out).mono ?_
  rintro e w6 ⟨rfl, b6⟩
  have B6 := Lib.hid (blw B5.out b6)
  have X6 := Lib.hid (X5.out.below b6)
  clear b6
  clear x1 x2 x3 x4 x5
  obtain ⟨x1, x2, x3, x4, x5⟩ := boxf X6.out
  go_wp2_with fail
  refine (F4.out _ B6.out).mono ?_
  rintro e w7 ⟨rfl, b7⟩
  have B7 := Lib.hid (blw B6.out b7)
  clear b7
  go_wp2_with fail
  refine (R.out _ B7.out).mono ?_
  rintro e w8 ⟨rfl, b8⟩
  have B8 := Lib.hid (blw B7.out b8)
  clear b8
  go_wp2_with fail
  refine (F5.out _ B8.out).mono ?_
  rintro e w9 ⟨rfl, b9⟩
  have B9 := Lib.hid (blw B8.out b9)
  clear b9
  go_wp2_with fail
  refine (A.out _ B9.out).mono ?_
  rintro e w10 ⟨rfl, b10⟩
  have B10 := Lib.hid (blw B9.out b10)
  clear b10
  go_wp2
  go_ret
  exact ⟨rfl, B10.out⟩
theorem walkInstrWrong (f0 b0 : Int) (wf0 : (Lit.int .u8 f0).wf = true) (wb0 : (Lit.int .i32 b0).wf = true) (a1 : Int) (w1 : (Lit.int .i32 a1).wf = true) (w : World) (hg : Good w) (hm : MaxIs w) :
    Calls Tryd.prog 10 #[.agg #[.int .u8 f0, .int .i32 b0], .int .i32 a1] w fun e w' => e = .returned (.bool true) ∧ Below w.heap.size w w' := by
  have hf := (u8_of_wf wf0).1
  have ha := isW_of_wf wb0
  have hv := isW_of_wf w1
  cases hx : ex f0 b0
  · exact wrong_none f0 b0 a1 hf ha hx w hg
  · by_cases h15 : f0 = 15
    · subst h15; exact wrong_op b0 a1 ha hx hv w hg
    · exact wrong_fn f0 b0 a1 hf ha hx h15 w hg hm
end Go.Proofs.YtlockfoidhndeaaDoor
