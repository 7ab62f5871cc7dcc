/- The law on mnemonics returns true. -/
import Derived.Test.YtlockfoidhndeaaDoorLawsC
import Derived.Test.YtlockfoidhndeaaDoorShelfb
namespace Go.Proofs.YtlockfoidhndeaaDoor
open Go Go.RowKit

theorem ascii_of {n : List UInt8} (h : ∀ c ∈ n, c < 128) : ∀ (j : Nat) (b : UInt8), (strOf n).data.toList[j]? = some b → b.toNat < 128 := by
  intro j b hb
  rw [strOf_data] at hb
  exact UInt8.lt_iff_toNat_lt.1 (h b (List.mem_of_getElem? hb))
theorem lower_at {n : List UInt8} (hs : n.length ≤ 1000) (hc : ∀ c ∈ n, c < 128) (hl : Lib.toLowerA n = n) (W : World) :
    Calls Tryd.prog 22 #[.string (strOf n)] W fun e w' => e = .returned (.string (strOf n)) ∧ Below W.heap.size W w' := by
  have h := Tryd.strings_ToLower_ascii (strOf n) W (by rw [strOf_size]; omega) (ascii_of hc)
  rw [strOf_data, hl] at h
  exact h
theorem upper_at {n : List UInt8} (hs : n.length ≤ 1000) (hc : ∀ c ∈ n, c < 128) (W : World) :
    Calls Tryd.prog 26 #[.string (strOf n)] W fun e w' => e = .returned (.string (strOf (Lib.toUpperA n))) ∧ Below W.heap.size W w' := by
  have h := Tryd.strings_ToUpper_ascii (strOf n) W (by rw [strOf_size]; omega) (ascii_of hc)
  rw [strOf_data] at h
  exact h
theorem contains_at {n : List UInt8} (hc : ∀ c ∈ n, c ≠ 32) (W : World) :
    Calls Tryd.prog 23 #[.string (strOf n), .string ⟨#[32]⟩] W fun e w' => e = .returned (.bool false) ∧ w' = W := by
  have h := Tryd.strings_Contains_one (strOf n) 32 W
  rw [strOf_data, indexByte_sp, (hd_none hc).2, if_neg (by decide)] at h
  exact h
theorem namedl_at {w : World} (hg : Good w) {f a g b : Int} (h : findI (nm f a) = some (g, b)) (W : World) (bb : Below w.heap.size w W) :
    Calls Tryd.prog 18 #[.string (strOf (nm f a))] W fun e w' => e = .returned (.tuple #[.agg #[.int .u8 g, .int .i32 b], .bool true]) ∧ Below W.heap.size W w' := by
  obtain ⟨n1, n2, n3⟩ := nd_some h
  exact named_at w hg n1 n2 n3 W bb
set_option maxRecDepth 100000 in
set_option maxHeartbeats 4000000 in
theorem names_none (f a : Int) (hf : 0 ≤ f) (ha : isW a) (hx : ex f a = false) (w : World) (hg : Good w) :
    Calls Tryd.prog 7 #[.agg #[.int .u8 f, .int .i32 a]] w fun e w' => e = .returned (.bool true) ∧ Below w.heap.size w w' := by
  have hn : nm f a = [] := by unfold ex at hx; simpa using hx
  have N := Lib.hid (name_at hg hf ha hx)
  have A := Lib.hid (awake_at hg)
  rw [hn] at N
  have hq : (strOf []).toList.isEmpty = true := by rw [strOf_empty]; rfl
  clear hg hx hf ha hn
  go_enter Tryd.func7, Tryd.ntmps7
  have B0 := Lib.hid (bal (b0 w) (.cells #[.int .u8 f, .int .i32 a] 23))
  have X0 := Lib.hid (boxS_new w 23 #[.int .u8 f, .int .i32 a])
  go_wp2_with fail
  refine (N.out _ B0.out).mono ?_
  rintro e w1 ⟨rfl, b1⟩
  have B1 := Lib.hid (blw B0.out b1)
  clear X0 b1
  go_wp2_with fail
  refine (A.out _ B1.out).mono ?_
  rintro e w2 ⟨rfl, b2⟩
  have B2 := Lib.hid (blw B1.out b2)
  clear b2
  go_wp2
  go_ret
  exact ⟨rfl, B2.out⟩
set_option maxRecDepth 100000 in
set_option maxHeartbeats 4000000 in
theorem names_op (a : Int) (ha : isW a) (hx : ex 15 a = true) (w : World) (hg : Good w) :
    Calls Tryd.prog 7 #[.agg #[.int .u8 15, .int .i32 a]] w fun e w' => e = .returned (.bool true) ∧ Below w.heap.size w w' := by
  obtain ⟨hfi, hc, hl, _, hle, _⟩ := ex_facts (by decide) hx
  rw [if_pos rfl] at hfi
  obtain ⟨p1, p2, _⟩ := ex_nm (f := 15) (a := a) (b := a) (.inr rfl)
  have N := Lib.hid (name_at hg (by decide) ha hx)
  have D := Lib.hid (namedl_at hg hfi)
  have P := Lib.hid (name_at hg (by decide) (a := a) ha (p1.symm.trans hx))
  rw [← p2] at P
  have A := Lib.hid (awake_at hg)
  have L := Lib.hid (lower_at (by omega) (fun c h => (hc c h).2) hl)
  have K := Lib.hid (contains_at (fun c h => (hc c h).1))
  have hq := same_str (nm 15 a)
  generalize nm 15 a = n at *
  clear hg hx ha hfi hc hl hle p1 p2
  go_enter Tryd.func7, Tryd.ntmps7
  have B0 := Lib.hid (bal (b0 w) (.cells #[.int .u8 15, .int .i32 a] 23))
  have X0 := Lib.hid (boxS_new w 23 #[.int .u8 15, .int .i32 a])
  go_wp2_with fail
  refine (N.out _ B0.out).mono ?_
  rintro e w1 ⟨rfl, b1⟩
  have B1 := Lib.hid (blw B0.out b1)
  have X1 := Lib.hid (X0.out.below b1)
  clear b1
  go_wp2_with fail
  refine (D.out _ B1.out).mono ?_
  rintro e w2 ⟨rfl, b2⟩
  have B2 := Lib.hid (bal (blw B1.out b2) (.cells #[.int .u8 15, .int .i32 a] 23))
  have X2 := Lib.hid ((X1.out.below b2).grown (World.grownBy_alloc _ (.cells #[.int .u8 15, .int .i32 a] 23) none))
  have Y2 := Lib.hid (boxS_new w2 23 #[.int .u8 15, .int .i32 a])
  have Z2 := Lib.hid (X1.out.below b2).lt
  clear b2
  go_wp2_with fail
  refine (P.out _ B2.out).mono ?_
  rintro e w3 ⟨rfl, b3⟩
  have B3 := Lib.hid (blw B2.out b3)
  have X3 := Lib.hid (X2.out.below b3)
  have Y3 := Lib.hid (Y2.out.below b3)
  clear b3
  obtain ⟨x1, x2, x3, x4, x5⟩ := boxf X3.out
  obtain ⟨y1, y2, y3, y4, y5⟩ := boxf Y3.out
  go_wp2_with fail
  refine (L.out _).mono ?_
  rintro e w4 ⟨rfl, b4⟩
  have B4 := Lib.hid (blw B3.out b4)
  clear b4
  go_wp2_with fail
  refine (K.out _).mono ?_
  rintro e w5 ⟨rfl, rfl⟩
  go_wp2_with fail
  refine (A.out _ B4.out).mono ?_
  rintro e w6 ⟨rfl, b6⟩
  have B6 := Lib.hid (blw B4.out b6)
  clear b6
  go_wp2
  go_ret
  exact ⟨rfl, B6.out⟩
set_option maxRecDepth 100000 in
set_option maxHeartbeats 4000000 in
theorem names_fn (f a : Int) (hf : 0 ≤ f) (ha : isW a) (hx : ex f a = true) (h15 : f ≠ 15) (w : World) (hg : Good w) :
    Calls Tryd.prog 7 #[.agg #[.int .u8 f, .int .i32 a]] w fun e w' => e = .returned (.bool true) ∧ Below w.heap.size w w' := by
  have hlt : f < 15 := by have := (ex_le hx).1; omega
  have hq1 : (f != 15) = true := by simpa using h15
  obtain ⟨hfi, hc, hl, _, hle, _⟩ := ex_facts hf hx
  rw [if_neg h15] at hfi
  obtain ⟨p1, p2, _⟩ := ex_nm (f := f) (a := a) (b := 0) (.inl hlt)
  have N := Lib.hid (name_at hg hf ha hx)
  have D := Lib.hid (namedl_at hg hfi)
  have P := Lib.hid (name_at hg hf (a := 0) ⟨by omega, by omega⟩ (p1.symm.trans hx))
  rw [← p2] at P
  have A := Lib.hid (awake_at hg)
  have L := Lib.hid (lower_at (by omega) (fun c h => (hc c h).2) hl)
  have K := Lib.hid (contains_at (fun c h => (hc c h).1))
  have hq := same_str (nm f a)
  generalize nm f a = n at *
  clear hg hx ha hfi hc hl hle p1 p2 hlt h15 hf
  go_enter Tryd.func7, Tryd.ntmps7
  have B0 := Lib.hid (bal (b0 w) (.cells #[.int .u8 f, .int .i32 a] 23))
  have X0 := Lib.hid (boxS_new w 23 #[.int .u8 f, .int .i32 a])
  go_wp2_with fail
  refine (N.out _ B0.out).mono ?_
  rintro e w1 ⟨rfl, b1⟩
  have B1 := Lib.hid (blw B0.out b1)
  have X1 := Lib.hid (X0.out.below b1)
  clear b1
  go_wp2_with fail
  refine (D.out _ B1.out).mono ?_
  rintro e w2 ⟨rfl, b2⟩
  have B2 := Lib.hid (bal (blw B1.out b2) (.cells #[.int .u8 f, .int .i32 0] 23))
  have X2 := Lib.hid ((X1.out.below b2).grown (World.grownBy_alloc _ (.cells #[.int .u8 f, .int .i32 0] 23) none))
  have Y2 := Lib.hid (boxS_new w2 23 #[.int .u8 f, .int .i32 0])
  have Z2 := Lib.hid (X1.out.below b2).lt
  clear b2
  go_wp2_with fail
  refine (P.out _ B2.out).mono ?_
  rintro e w3 ⟨rfl, b3⟩
  have B3 := Lib.hid (blw B2.out b3)
  have X3 := Lib.hid (X2.out.below b3)
  have Y3 := Lib.hid (Y2.out.below b3)
  clear b3
  obtain ⟨x1, x2, x3, x4, x5⟩ := boxf X3.out
  obtain ⟨y1, y2, y3, y4, y5⟩ := boxf Y3.out
  have z2 := Z2.out
  go_wp2_with fail
  refine (L.out _).mono ?_
  rintro e w4 ⟨rfl, b4⟩
  have B4 := Lib.hid (blw (bset B3.out (Nat.le_refl _) _) b4)
  clear b4
  go_wp2_with fail
  refine (K.out _).mono ?_
  rintro e w5 ⟨rfl, rfl⟩
  go_wp2_with fail
  refine (A.out _ B4.out).mono ?_
  rintro e w6 ⟨rfl, b6⟩
  have B6 := Lib.hid (blw B4.out b6)
  clear b6
  go_wp2
  go_ret
  exact ⟨rfl, B6.out⟩
theorem walkInstrNames (f0 b0 : Int) (wf0 : (Lit.int .u8 f0).wf = true) (wb0 : (Lit.int .i32 b0).wf = true) (w : World) (hg : Good w) :
    Calls Tryd.prog 7 #[.agg #[.int .u8 f0, .int .i32 b0]] w fun e w' => e = .returned (.bool true) ∧ Below w.heap.size w w' := by
  have hf := (u8_of_wf wf0).1
  have ha := isW_of_wf wb0
  cases hx : ex f0 b0
  · exact names_none f0 b0 hf ha hx w hg
  · by_cases h15 : f0 = 15
    · subst h15; exact names_op b0 ha hx w hg
    · exact names_fn f0 b0 hf ha hx h15 w hg
end Go.Proofs.YtlockfoidhndeaaDoor
