/- The law on shifts, place by place and back, returns true for all words. -/
import Derived.Test.YtikfbooihacjfaaAwake
namespace Go.Proofs.Ytikfbooihacjfaa
open Go Go.RowKit

theorem shlD_one (D k : Nat) : shlD (shlD D k) 1 = shlD D (k + 1) := by
  unfold shlD
  rw [Nat.pow_one, Nat.pow_succ, ← Nat.mul_assoc]
  generalize D * 2 ^ k = x
  omega
theorem shrD_one (D k : Nat) : shrD (shrD D k) 1 = shrD D (k + 1) := by
  unfold shrD
  rw [Nat.pow_one, Nat.pow_succ, ← Nat.div_div_eq_div_mul]
theorem shlD_zero {D : Nat} (h : D < 18446744073709551616) : shlD D 0 = D := by unfold shlD; rw [Nat.pow_zero, Nat.mul_one, Nat.mod_eq_of_lt h]
theorem shrD_zero (D : Nat) : shrD D 0 = D := by unfold shrD; rw [Nat.pow_zero, Nat.div_one]
theorem shlD_min (D k : Nat) : shlD D (min k 64) = shlD D k := by
  rcases Nat.le_total k 64 with h | h
  · rw [Nat.min_eq_left h]
  · rw [Nat.min_eq_right h, shlD_big D k h, shlD_big D 64 (by omega)]
theorem shrD_min (D k : Nat) (hD : D < 18446744073709551616) : shrD D (min k 64) = shrD D k := by
  rcases Nat.le_total k 64 with h | h
  · rw [Nat.min_eq_left h]
  · rw [Nat.min_eq_right h, shrD_big D k hD h, shrD_big D 64 hD (by omega)]
/-- What is left of a double word behind m places to the left and back: its part below. -/
theorem left_right (D m : Nat) (hm : m ≤ 64) : shrD (shlD D m) m = D % 2 ^ (64 - m) := by
  unfold shrD shlD
  have e : (18446744073709551616 : Nat) = 2 ^ (64 - m) * 2 ^ m := by rw [← Nat.pow_add, show 64 - m + m = 64 by omega]
  rw [e, Nat.mul_mod_mul_right, Nat.mul_div_cancel _ (Nat.pow_pos (by omega))]
theorem right_left (D j : Nat) (hD : D < 18446744073709551616) : shlD (shrD D j) j = 2 ^ j * (D / 2 ^ j) := by
  unfold shlD shrD
  rw [Nat.mul_comm, Nat.mod_eq_of_lt]
  exact Nat.lt_of_le_of_lt (Nat.mul_div_le D (2 ^ j)) hD
theorem parts_or (D j : Nat) : 2 ^ j * (D / 2 ^ j) ||| D % 2 ^ j = D := by
  rw [← Nat.two_pow_add_eq_or_of_lt (Nat.mod_lt _ (Nat.pow_pos (by omega)))]
  exact Nat.div_add_mod D (2 ^ j)
theorem parts_and (D j : Nat) : 2 ^ j * (D / 2 ^ j) &&& D % 2 ^ j = 0 := by
  apply Nat.eq_of_testBit_eq
  intro i
  rw [Nat.testBit_and, Nat.testBit_two_pow_mul, Nat.testBit_mod_two_pow, Nat.zero_testBit]
  by_cases h : j ≤ i
  · have : ¬ i < j := by omega
    simp [this]
  · simp [h]
theorem or_hi (x y : Nat) : x / 4294967296 ||| y / 4294967296 = (x ||| y) / 4294967296 := by
  have := Nat.shiftRight_or_distrib (a := x) (b := y) (i := 32)
  simp only [Nat.shiftRight_eq_div_pow] at this
  rw [show (2 : Nat) ^ 32 = 4294967296 by decide] at this
  exact this.symm
theorem and_hi (x y : Nat) : x / 4294967296 &&& y / 4294967296 = (x &&& y) / 4294967296 := by
  have := Nat.shiftRight_and_distrib (a := x) (b := y) (i := 32)
  simp only [Nat.shiftRight_eq_div_pow] at this
  rw [show (2 : Nat) ^ 32 = 4294967296 by decide] at this
  exact this.symm
theorem or_lo (x y : Nat) : x % 4294967296 ||| y % 4294967296 = (x ||| y) % 4294967296 := by
  have := Nat.or_mod_two_pow (a := x) (b := y) (n := 32)
  rw [show (2 : Nat) ^ 32 = 4294967296 by decide] at this
  exact this.symm
theorem and_lo (x y : Nat) : x % 4294967296 &&& y % 4294967296 = (x &&& y) % 4294967296 := by
  have := Nat.and_mod_two_pow (a := x) (b := y) (n := 32)
  rw [show (2 : Nat) ^ 32 = 4294967296 by decide] at this
  exact this.symm
theorem ofInt_wd (x : Nat) : (BitVec.ofInt 32 (wd x)).toNat = x % 4294967296 := by
  rw [BitVec.toNat_ofInt]
  unfold wd wrap32
  omega
theorem i32_or (x y : Nat) : bits .or .i32 (wd x) (wd y) = wd (x ||| y) := by
  show IntKind.i32.wrap ((BitVec.ofInt 32 (wd x) ||| BitVec.ofInt 32 (wd y)).toNat : Int) = _
  rw [BitVec.toNat_or, ofInt_wd, ofInt_wd, or_lo, IntKind.wrap_i32]
  unfold wd wrap32
  omega
theorem i32_and (x y : Nat) : bits .and .i32 (wd x) (wd y) = wd (x &&& y) := by
  show IntKind.i32.wrap ((BitVec.ofInt 32 (wd x) &&& BitVec.ofInt 32 (wd y)).toNat : Int) = _
  rw [BitVec.toNat_and, ofInt_wd, ofInt_wd, and_lo, IntKind.wrap_i32]
  unfold wd wrap32
  omega
/-- The four tests of the law, for the two parts of a double word. -/
theorem turn_tests (hi lo : Int) (hh : isW hi) (hl : isW lo) (m : Nat) (hm : m ≤ 64) :
    bits .or .i32 (hiW (shlD (shrD (DW hi lo) (64 - m)) (64 - m))) (hiW (shrD (shlD (DW hi lo) m) m)) = hi ∧
    bits .or .i32 (wd (shlD (shrD (DW hi lo) (64 - m)) (64 - m))) (wd (shrD (shlD (DW hi lo) m) m)) = lo ∧
    bits .and .i32 (hiW (shlD (shrD (DW hi lo) (64 - m)) (64 - m))) (hiW (shrD (shlD (DW hi lo) m) m)) = 0 ∧
    bits .and .i32 (wd (shlD (shrD (DW hi lo) (64 - m)) (64 - m))) (wd (shrD (shlD (DW hi lo) m) m)) = 0 := by
  rw [left_right _ _ hm, right_left _ _ (DW_lt hi lo)]
  have p1 := parts_or (DW hi lo) (64 - m)
  have p2 := parts_and (DW hi lo) (64 - m)
  generalize 2 ^ (64 - m) * (DW hi lo / 2 ^ (64 - m)) = X at *
  generalize DW hi lo % 2 ^ (64 - m) = Y at *
  unfold hiW
  refine ⟨?_, ?_, ?_, ?_⟩
  · rw [i32_or, or_hi, p1]; exact hi_DW hh
  · rw [i32_or, p1]; exact lo_DW hl
  · rw [i32_and, and_hi, p2]; exact wd_zero
  · rw [i32_and, p2]; exact wd_zero
theorem nrm_back (D : Nat) : shrD (up D (nrm D)) (nrm D) = D := by
  unfold shrD up
  exact Nat.mul_div_cancel _ (Nat.pow_pos (by omega))
/-- What a shift answers. -/
def Two (w : World) (x y : Int) (e : Ending) (w' : World) : Prop := e = .returned (.tuple #[.int .i32 x, .int .i32 y]) ∧ Below w.heap.size w w'
def orIs (u s v : Int) : Prop := bits .or .i32 u s = v
def andIs (u s v : Int) : Prop := bits .and .i32 u s = v
theorem orIs.val {u s v : Int} (h : orIs u s v) : Value.int .i32 (bits .or .i32 u s) = .int .i32 v := by unfold orIs at h; rw [h]
theorem andIs.val {u s v : Int} (h : andIs u s v) : Value.int .i32 (bits .and .i32 u s) = .int .i32 v := by unfold andIs at h; rw [h]
set_option maxRecDepth 100000 in
set_option maxHeartbeats 8000000 in
theorem turns_at (hi lo n : Int) (m : Nat) (hm64 : m ≤ 64) (hm : min (n % 4294967296) 64 = (m : Int)) (H L X Y : Nat → Int) (h0 : H 0 = hi ∧ L 0 = lo ∧ X 0 = hi ∧ Y 0 = lo)
    (c1 : ∀ k w, Calls Try.prog 28 #[.int .i32 (H k), .int .i32 (L k), .int .i32 1] w (Two w (H (k + 1)) (L (k + 1))))
    (c2 : ∀ k w, Calls Try.prog 30 #[.int .i32 (X k), .int .i32 (Y k), .int .i32 1] w (Two w (X (k + 1)) (Y (k + 1))))
    (c3 : ∀ w, Calls Try.prog 28 #[.int .i32 hi, .int .i32 lo, .int .i32 n] w (Two w (H m) (L m)))
    (c4 : ∀ w, Calls Try.prog 30 #[.int .i32 hi, .int .i32 lo, .int .i32 n] w (Two w (X m) (Y m)))
    (p q u v s t e f many : Int)
    (c5 : ∀ w, Calls Try.prog 30 #[.int .i32 hi, .int .i32 lo, .int .i32 (64 - (m : Int))] w (Two w p q))
    (c6 : ∀ w, Calls Try.prog 28 #[.int .i32 p, .int .i32 q, .int .i32 (64 - (m : Int))] w (Two w u v))
    (c7 : ∀ w, Calls Try.prog 30 #[.int .i32 (H m), .int .i32 (L m), .int .i32 n] w (Two w s t))
    (t1 : orIs u s hi) (t2 : orIs v t lo) (t3 : andIs u s 0) (t4 : andIs v t 0)
    (c8 : ∀ w : World, Calls Try.prog 32 #[.int .i32 hi, .int .i32 lo] w fun e' w' => e' = .returned (.tuple #[.int .i32 e, .int .i32 f, .int .i32 many]) ∧ Below w.heap.size w w')
    (hfin : (many = 64 ∧ hi = 0 ∧ lo = 0 ∧ e = 0 ∧ f = 0) ∨ ((many == 64) = false ∧ 0 ≤ many ∧ many < 64 ∧ e < 0 ∧ ∀ w, Calls Try.prog 30 #[.int .i32 e, .int .i32 f, .int .i32 many] w (Two w hi lo))) (w : World) :
    Calls Try.prog 9 #[.int .i32 hi, .int .i32 lo, .int .i32 n] w fun e w' => e = .returned (.bool true) ∧ Below w.heap.size w w' := by
  have v1 := t1.val
  have v2 := t2.val
  have v3 := t3.val
  have v4 := t4.val
  have C1 := Lib.hid c1
  have C2 := Lib.hid c2
  have C3 := Lib.hid c3
  have C4 := Lib.hid c4
  have C5 := Lib.hid c5
  have C6 := Lib.hid c6
  have C7 := Lib.hid c7
  have C8 := Lib.hid c8
  have H0 := Lib.hid h0
  clear c1 c2 c3 c4 c5 c6 c7 c8 h0 t1 t2 t3 t4
  rcases hfin with ⟨rfl, rfl, rfl, rfl, rfl⟩ | ⟨z1, z2, z3, z4, c9⟩
  · go_enter Try.func9, Try.ntmps9
    go_wp2
    go_loopw [7, 8, 9, 10, 34] (fun a b c d i wr => ∃ k : Nat, k ≤ m ∧ i = .int .u32 k ∧ a = .int .i32 (H k) ∧ b = .int .i32 (L k) ∧ c = .int .i32 (X k) ∧ d = .int .i32 (Y k) ∧ Below w.heap.size w wr) (fun _ _ _ _ i _ => m - (intOf i).toNat)
    case atStart => exact ⟨0, Nat.zero_le _, rfl, by rw [H0.out.1], by rw [H0.out.2.1], by rw [H0.out.2.2.1], by rw [H0.out.2.2.2], Below.refl _ _⟩
    case round =>
      obtain ⟨k, hk, rfl, rfl, rfl, rfl, rfl, hbel⟩ := hrel
      by_cases hlt : (k : Int) < m
      · go_wp2_with (first
          | (go_at_call 28; (with_reducible refine (C1.out _ _).mono ?_); rintro e w1 ⟨rfl, b1⟩)
          | (go_at_call 30; (with_reducible refine (C2.out _ _).mono ?_); rintro e w2 ⟨rfl, b2⟩))
        go_roundw
        case rel => exact ⟨k + 1, by omega, by go_num, rfl, rfl, rfl, rfl, (hbel.trans (b1.mono hbel.size)).trans (b2.mono (Nat.le_trans hbel.size b1.size))⟩
        case measure => simp [intOf]; omega
      · obtain rfl : m = k := by omega
        go_wp2_with (first
          | (go_at_call 28; (with_reducible refine (C3.out _).mono ?_); rintro e w3 ⟨rfl, b3⟩)
          | (go_at_call 30; (with_reducible refine (C4.out _).mono ?_); rintro e w4 ⟨rfl, b4⟩)
          | (go_at_call 30; (with_reducible refine (C5.out _).mono ?_); rintro e w5 ⟨rfl, b5⟩)
          | (go_at_call 28; (with_reducible refine (C6.out _).mono ?_); rintro e w6 ⟨rfl, b6⟩)
          | (go_at_call 30; (with_reducible refine (C7.out _).mono ?_); rintro e w7 ⟨rfl, b7⟩)
          | (go_at_call 32; (with_reducible refine (C8.out _).mono ?_); rintro e w8 ⟨rfl, b8⟩)
          | (go_at_call 19; (with_reducible refine (awake_any _).mono ?_); rintro e w10 ⟨rfl, b10⟩))
        go_ret
        exact ⟨rfl, blw (blw (blw (blw (blw (blw (hbel.trans (b3.mono hbel.size)) b4) b5) b6) b7) b8) b10⟩
  · have C9 := Lib.hid c9
    clear c9
    go_enter Try.func9, Try.ntmps9
    go_wp2
    go_loopw [7, 8, 9, 10, 34] (fun a b c d i wr => ∃ k : Nat, k ≤ m ∧ i = .int .u32 k ∧ a = .int .i32 (H k) ∧ b = .int .i32 (L k) ∧ c = .int .i32 (X k) ∧ d = .int .i32 (Y k) ∧ Below w.heap.size w wr) (fun _ _ _ _ i _ => m - (intOf i).toNat)
    case atStart => exact ⟨0, Nat.zero_le _, rfl, by rw [H0.out.1], by rw [H0.out.2.1], by rw [H0.out.2.2.1], by rw [H0.out.2.2.2], Below.refl _ _⟩
    case round =>
      obtain ⟨k, hk, rfl, rfl, rfl, rfl, rfl, hbel⟩ := hrel
      by_cases hlt : (k : Int) < m
      · go_wp2_with (first
          | (go_at_call 28; (with_reducible refine (C1.out _ _).mono ?_); rintro e w1 ⟨rfl, b1⟩)
          | (go_at_call 30; (with_reducible refine (C2.out _ _).mono ?_); rintro e w2 ⟨rfl, b2⟩))
        go_roundw
        case rel => exact ⟨k + 1, by omega, by go_num, rfl, rfl, rfl, rfl, (hbel.trans (b1.mono hbel.size)).trans (b2.mono (Nat.le_trans hbel.size b1.size))⟩
        case measure => simp [intOf]; omega
      · obtain rfl : m = k := by omega
        go_wp2_with (first
          | (go_at_call 28; (with_reducible refine (C3.out _).mono ?_); rintro e w3 ⟨rfl, b3⟩)
          | (go_at_call 30; (with_reducible refine (C4.out _).mono ?_); rintro e w4 ⟨rfl, b4⟩)
          | (go_at_call 30; (with_reducible refine (C5.out _).mono ?_); rintro e w5 ⟨rfl, b5⟩)
          | (go_at_call 28; (with_reducible refine (C6.out _).mono ?_); rintro e w6 ⟨rfl, b6⟩)
          | (go_at_call 30; (with_reducible refine (C7.out _).mono ?_); rintro e w7 ⟨rfl, b7⟩)
          | (go_at_call 32; (with_reducible refine (C8.out _).mono ?_); rintro e w8 ⟨rfl, b8⟩)
          | (go_at_call 30; (with_reducible refine (C9.out _).mono ?_); rintro e w9 ⟨rfl, b9⟩)
          | (go_at_call 19; (with_reducible refine (awake_any _).mono ?_); rintro e w10 ⟨rfl, b10⟩))
        go_ret
        exact ⟨rfl, blw (blw (blw (blw (blw (blw (blw (hbel.trans (b3.mono hbel.size)) b4) b5) b6) b7) b8) b9) b10⟩
theorem U_small (k : Nat) (h : k < 64) : U (k : Int) = k := by unfold U; omega
theorem shr_two {k x D : Nat} {a0 a1 : Int} (hn : U (k : Int) = k) (f2 : x < 18446744073709551616) (hback : shrD x k = D) (e1 : hiW D = a0) (e2 : wd D = a1) (w : World) :
    Calls Try.prog 30 #[.int .i32 (hiW x), .int .i32 (wd x), .int .i32 (k : Int)] w (Two w a0 a1) := by
  have c := Shr_any (hiW x) (wd x) (k : Int) w
  rw [hn, DW_hilo _ f2, hback, e1, e2] at c
  exact c
theorem walkLongTurns (a0 a1 a2 : Int) (w0 : (Lit.int .i32 a0).wf = true) (w1 : (Lit.int .i32 a1).wf = true) (_w2 : (Lit.int .i32 a2).wf = true) (w : World) :
    Calls Try.prog 9 #[.int .i32 a0, .int .i32 a1, .int .i32 a2] w fun e w' => e = .returned (.bool true) ∧ Below w.heap.size w w' := by
  have hh := isW_of_wf w0
  have hl := isW_of_wf w1
  have hD := DW_lt a0 a1
  have hmd : ∃ m : Nat, m = min (U a2) 64 := ⟨_, rfl⟩
  obtain ⟨m, hm⟩ := hmd
  have hm64 : m ≤ 64 := by omega
  have hmi : min (a2 % 4294967296) 64 = (m : Int) := by have := U_cast a2; omega
  have el : shlD (DW a0 a1) (U a2) = shlD (DW a0 a1) m := by rw [hm, shlD_min]
  have er : shrD (DW a0 a1) (U a2) = shrD (DW a0 a1) m := by rw [hm, shrD_min _ _ hD]
  have hb : U (64 - (m : Int)) = 64 - m := by unfold U; omega
  have hlr : shrD (shlD (DW a0 a1) m) (U a2) = shrD (shlD (DW a0 a1) m) m := by
    rw [← shrD_min (shlD (DW a0 a1) m) (U a2) (shlD_lt _ _), ← hm]
  obtain ⟨t1, t2, t3, t4⟩ := turn_tests a0 a1 hh hl m hm64
  obtain ⟨H, L, n, hE⟩ : ∃ H L n, nrmE (DW a0 a1) = .returned (.tuple #[.int .i32 H, .int .i32 L, .int .i32 n]) := ⟨_, _, _, rfl⟩
  have c3 := Shl_any a0 a1 a2
  have c4 := Shr_any a0 a1 a2
  have c5 := Shr_any a0 a1 (64 - (m : Int))
  rw [el] at c3
  rw [er] at c4
  rw [hb] at c5
  refine turns_at a0 a1 a2 m hm64 hmi (fun k => hiW (shlD (DW a0 a1) k)) (fun k => wd (shlD (DW a0 a1) k)) (fun k => hiW (shrD (DW a0 a1) k)) (fun k => wd (shrD (DW a0 a1) k)) ?_ ?_ ?_ c3 c4
    _ _ _ _ _ _ H L n c5 (fun w => ?_) (fun w => ?_) t1 t2 t3 t4 (fun w => at_ (Norm_any a0 a1 w) hE) ?_ w
  · show hiW (shlD _ 0) = a0 ∧ wd (shlD _ 0) = a1 ∧ hiW (shrD _ 0) = a0 ∧ wd (shrD _ 0) = a1
    rw [shlD_zero hD, shrD_zero, hi_DW hh, lo_DW hl]
    exact ⟨rfl, rfl, rfl, rfl⟩
  · intro k w
    have c := Shl_any (hiW (shlD (DW a0 a1) k)) (wd (shlD (DW a0 a1) k)) 1 w
    rw [one_U, DW_hilo _ (shlD_lt _ _), shlD_one] at c
    exact c
  · intro k w
    have c := Shr_any (hiW (shrD (DW a0 a1) k)) (wd (shrD (DW a0 a1) k)) 1 w
    rw [one_U, DW_hilo _ (shrD_lt hD _), shrD_one] at c
    exact c
  · have c := Shl_any (hiW (shrD (DW a0 a1) (64 - m))) (wd (shrD (DW a0 a1) (64 - m))) (64 - (m : Int)) w
    rw [hb, DW_hilo _ (shrD_lt hD _)] at c
    exact c
  · have c := Shr_any (hiW (shlD (DW a0 a1) m)) (wd (shlD (DW a0 a1) m)) a2 w
    rw [DW_hilo _ (shlD_lt _ _), hlr] at c
    exact c
  · unfold nrmE at hE
    injection hE with hE
    simp only [Value.tuple.injEq, Array.mk.injEq, List.cons.injEq, Value.int.injEq, true_and, and_true] at hE
    obtain ⟨rfl, rfl, rfl⟩ := hE
    by_cases h0 : DW a0 a1 = 0
    · refine .inl ⟨by rw [h0, nrm_zero]; rfl, ?_, ?_, by rw [h0, up_zero, hiW_zero], by rw [h0, up_zero, wd_zero]⟩
      · have := hi_DW (lo := a1) hh; rw [h0, hiW_zero] at this; exact this.symm
      · have := lo_DW (hi := a0) hl; rw [h0, wd_zero] at this; exact this.symm
    · obtain ⟨f1, f2, f3⟩ := nrm_fit _ h0 hD
      have hback := nrm_back (DW a0 a1)
      have e1 := hi_DW (lo := a1) hh
      have e2 := lo_DW (hi := a0) hl
      clear t1 t2 t3 t4 c3 c4 c5 el er hlr hD h0
      generalize nrm (DW a0 a1) = k at *
      generalize up (DW a0 a1) k = x at *
      generalize DW a0 a1 = D at *
      have hn := U_small k (by omega)
      have hneg := (hiW_neg f2).2 f3
      exact .inr ⟨by rw [beq_eq_false_iff_ne]; omega, by omega, by omega, hneg, fun w => shr_two hn f2 hback e1 e2 w⟩
end Go.Proofs.Ytikfbooihacjfaa
