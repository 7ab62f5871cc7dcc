/- The law on words returns true for every slice of bytes, every address and every word. -/
import Derived.Test.YtjdinppblejcdaaLawsB
namespace Go.Proofs.Ytjdinppblejcdaa
open Go Go.RowKit

set_option maxRecDepth 100000 in
theorem words_head {A : Option Addr} {n c : Nat} (a v : Int) (w : World) (hn : 65536 < n) : Calls Try.prog 7 #[.slice A n c, .int .i32 a, .int .i32 v] w fun e w' => e = .returned (.bool true) ∧ Below w.heap.size w w' := by
  have h : (65536 : Int) < (n : Int) := by omega
  clear hn
  go_enter Try.func7, Try.ntmps7
  go_wp2_with (go_at_call 13; (with_reducible refine (head_any _).mono ?_); rintro e w' ⟨rfl, g1⟩; have H1 := Lib.hid g1; clear g1)
  go_ret
  exact ⟨rfl, g_below0 H1.out⟩
set_option maxRecDepth 100000 in
theorem words_no {A : Option Addr} {n c : Nat} (a v : Int) (w : World) (hn : n ≤ 65536) (hm : may n = false) : Calls Try.prog 7 #[.slice A n c, .int .i32 a, .int .i32 v] w fun e w' => e = .returned (.bool true) ∧ Below w.heap.size w w' := by
  have h : ¬ (65536 : Int) < (n : Int) := by omega
  have C := Lib.hid (From_no (A := A) (c := c) hm)
  clear hn hm
  go_enter Try.func7, Try.ntmps7
  go_wp2_with (first
    | (go_at_call 18; (with_reducible refine (C.out _).mono ?_); rintro e w2 ⟨rfl, rfl⟩)
    | (go_at_call 13; (with_reducible refine (head_any _).mono ?_); rintro e w' ⟨rfl, g1⟩; have H1 := Lib.hid g1; clear g1))
  go_ret
  exact ⟨rfl, g_below0 H1.out⟩
set_option maxRecDepth 100000 in
set_option maxHeartbeats 4000000 in
theorem words_out {A : Option Addr} {c : Nat} {xs : List Nat} {w : World} (R : RS w A c xs) (hm : may xs.length = true) {a v : Int} (ha : isW a) (ho : ¬ wx a + 4 ≤ xs.length) : Calls Try.prog 7 #[.slice A xs.length c, .int .i32 a, .int .i32 v] w fun e w' => e = .returned (.bool true) ∧ Below w.heap.size w w' := by
  have hh : 1024 ≤ xs.length ∧ xs.length ≤ 65536 ∧ xs.length % 4 = 0 := by unfold may at hm; simp at hm; omega
  have h : ¬ (65536 : Int) < (xs.length : Int) := by omega
  have HR := Lib.hid R
  have HB := Lib.hid R.by_
  have C := Lib.hid (From_ok hm R)
  have D := Lib.hid (fun (w1 : World) (p g : Nat) (M1 : MemAt w1 p g xs) => SetWord_out (v := v) M1 ha ho)
  have CB := Lib.hid (fun (w1 : World) (p g : Nat) (M1 : MemAt w1 p g xs) => Bytes_any M1)
  have S := Lib.hid (fun (A1 : Option Addr) (c1 : Nat) (w1 : World) (R1 : RS w1 A1 c1 xs) (R2 : RS w1 A c xs) => Same_any R1 R2)
  have HN := Lib.hid (show xs.length ≤ maxLen by unfold maxLen; omega)
  clear R hm hh ha ho
  generalize hL : xs.length = L at *
  have HL := Lib.hid hL
  clear hL
  go_enter Try.func7, Try.ntmps7
  go_wp2_with (first
    | (go_at_call 18; (with_reducible refine C.out.mono ?_); rintro e w1 ⟨p, rfl, g, hp, hg, g1, M1⟩; have H1 := Lib.hid (And.intro hg (And.intro g1 M1)); clear hp hg g1 M1)
    | (go_at_call 29; (with_reducible refine (D.out _ _ _ H1.out.2.2).mono ?_); rintro e w2 ⟨rfl, g2, M2⟩; have H2 := Lib.hid (And.intro (g_new H1.out.2.1 g2 H1.out.1) M2); clear g2 M2)
    | (go_at_call 16; (with_reducible refine (CB.out _ _ _ H2.out.2).mono ?_); rintro e w3 ⟨rfl, g3, r3⟩; have H3 := Lib.hid (And.intro (g_trans H2.out.1 g3) (rs_of_row r3 (by have := HN.out; have := HL.out; omega) HB.out)); rw [HL.out] at H3; clear g3 r3)
    | (go_at_call 15; (with_reducible refine (S.out _ _ _ H3.out.2 (HR.out.kept0 H3.out.1)).mono ?_); rintro e w4 ⟨rfl, rfl⟩)
    | (go_at_call 13; (with_reducible refine (head_any _).mono ?_); rintro e w5 ⟨rfl, g1⟩; have H4 := Lib.hid g1; clear g1))
  go_ret
  exact ⟨rfl, g_below0 (g_trans H3.out.1 H4.out)⟩
theorem and_hi (x : Nat) (hx : x < 4294967296) : x &&& 4294967292 = x / 4 * 4 := by
  rw [show (4294967292 : Nat) = (2 ^ 30 - 1) <<< 2 by decide, show x / 4 * 4 = (x >>> 2) <<< 2 by rw [Nat.shiftRight_eq_div_pow, Nat.shiftLeft_eq]]
  apply Nat.eq_of_testBit_eq
  intro i
  simp only [Nat.testBit_and, Nat.testBit_shiftLeft, Nat.testBit_shiftRight, Nat.testBit_two_pow_sub_one]
  by_cases h2 : 2 ≤ i
  · by_cases h3 : i < 32
    · have h4 : i - 2 < 30 := by omega
      simp [h2, h4, show 2 + (i - 2) = i by omega]
    · have : x.testBit i = false := Nat.testBit_lt_two_pow (Nat.lt_of_lt_of_le hx (Nat.pow_le_pow_right (n := 2) (by omega) (show 32 ≤ i by omega)))
      simp [this, show 2 + (i - 2) = i by omega]
  · simp [h2]
theorem andNot3 {a : Int} (ha : isW a) : bits .andNot .i32 a 3 = a - a % 4 := by
  show IntKind.i32.wrap ((BitVec.ofInt 32 a &&& ~~~BitVec.ofInt 32 3).toNat : Int) = _
  have h1 : (BitVec.ofInt 32 3).toNat = 3 := by decide
  have h2 := (BitVec.ofInt 32 a).isLt
  have h3 : ((BitVec.ofInt 32 a).toNat : Int) = a % 4294967296 := by
    rw [BitVec.toNat_ofInt]
    omega
  rw [BitVec.toNat_and, BitVec.toNat_not, h1, show 2 ^ 32 - 1 - 3 = 4294967292 by decide, and_hi _ h2, IntKind.wrap_i32]
  unfold isW at ha
  omega
theorem four_shr (v : Int) : v % 256 = ((four v).getD 0 0 : Nat) ∧ v % 4294967296 / 256 % 256 = ((four v).getD 1 0 : Nat) ∧ v % 4294967296 / 65536 % 256 = ((four v).getD 2 0 : Nat) ∧ v % 4294967296 / 16777216 % 256 = ((four v).getD 3 0 : Nat) := by
  simp only [four, List.getD_cons_zero, List.getD_cons_succ]
  refine ⟨?_, ?_, ?_, ?_⟩ <;> omega
theorem wv_four {xs : List Nat} {i : Nat} {v : Int} (h : i + 4 ≤ xs.length) (hv : isW v) : wv (put xs i (four v)) i = v := by
  have hl := put_len (xs := xs) (ys := four v) (i := i) (by rw [four_len]; exact h)
  have G := fun j => put_get (xs := xs) (ys := four v) (i := i) (j := j) (by rw [four_len]; exact h)
  unfold wv
  rw [if_pos (by rw [hl]; exact h), G, G, G, G, if_pos (by rw [four_len]; omega), if_pos (by rw [four_len]; omega), if_pos (by rw [four_len]; omega), if_pos (by rw [four_len]; omega),
    show i - i = 0 by omega, show i + 1 - i = 1 by omega, show i + 2 - i = 2 by omega, show i + 3 - i = 3 by omega]
  simp only [four, List.getD_cons_zero, List.getD_cons_succ]
  unfold isW at hv
  unfold wd wrap32
  omega
set_option maxRecDepth 100000 in
set_option maxHeartbeats 4000000 in
theorem words_in {A : Option Addr} {c : Nat} {xs : List Nat} {w : World} (R : RS w A c xs) (hm : may xs.length = true) {a v : Int} (ha : isW a) (hv : isW v) (ho : wx a + 4 ≤ xs.length) : Calls Try.prog 7 #[.slice A xs.length c, .int .i32 a, .int .i32 v] w fun e w' => e = .returned (.bool true) ∧ Below w.heap.size w w' := by
  have hh : 1024 ≤ xs.length ∧ xs.length ≤ 65536 ∧ xs.length % 4 = 0 := by unfold may at hm; simp at hm; omega
  have h : ¬ (65536 : Int) < (xs.length : Int) := by omega
  have HR := Lib.hid R
  have HB := Lib.hid R.by_
  have C := Lib.hid (From_ok hm R)
  have hpl := put_len (xs := xs) (ys := four v) (i := wx a) (by rw [four_len]; exact ho)
  have D := Lib.hid (fun (w1 : World) (p g : Nat) (M1 : MemAt w1 p g xs) => SetWord_in (v := v) M1 ha ho)
  have CB := Lib.hid (fun (w1 : World) (p g : Nat) (M1 : MemAt w1 p g (put xs (wx a) (four v))) => Bytes_any M1)
  have CW := Lib.hid (fun (w1 : World) (p g : Nat) (M1 : MemAt w1 p g (put xs (wx a) (four v))) => Word_in M1 ha (by rw [hpl]; exact ho))
  have HZ := Lib.hid (put_by R.by_ (four_by v) (i := wx a))
  have HWV := wv_four ho hv
  have HN := Lib.hid hh
  have HG := Lib.hid (fun j => put_get (xs := xs) (ys := four v) (i := wx a) (j := j) (by rw [four_len]; exact ho))
  have E : bits .andNot .i32 a 3 = (wx a : Int) - 2147483648 := by
    rw [andNot3 ha]
    have := ix_cast ha
    unfold isW at ha
    unfold wx
    omega
  have q1 : (wx a : Int) + 4 ≤ (xs.length : Int) := by omega
  rw [hpl] at CB
  clear R hm ha
  rw [HWV] at CW
  clear HWV hv
  generalize put xs (wx a) (four v) = zs at *
  generalize hk : wx a = i at *
  clear hk
  generalize hL : xs.length = L at *
  have HL := Lib.hid hL
  have HP := Lib.hid hpl
  have hb : L ≤ 65536 := hh.2.1
  clear hL hpl hh ho
  go_enter Try.func7, Try.ntmps7
  go_wp2_with (first
    | (go_at_call 18; (with_reducible refine C.out.mono ?_); rintro e w1 ⟨p, rfl, g, hp, hg, g1, M1⟩; have H1 := Lib.hid (And.intro hg (And.intro g1 M1)); clear hp hg g1 M1)
    | (go_at_call 29; (with_reducible refine (D.out _ _ _ H1.out.2.2).mono ?_); rintro e w2 ⟨rfl, g2, M2⟩; have H2 := Lib.hid (And.intro (g_new H1.out.2.1 g2 H1.out.1) M2); clear g2 M2)
    | (go_at_call 16; (with_reducible refine (CB.out _ _ _ H2.out.2).mono ?_); rintro e w3 ⟨rfl, g3, r3⟩; have H3 := Lib.hid (And.intro (g_trans H2.out.1 g3) (And.intro (H2.out.2.kept0 g3) (rs_of_row r3 (by have := HN.out; have := HP.out; unfold maxLen; omega) HZ.out))); rw [HP.out] at H3; clear g3 r3))
  have HK := Lib.hid (fun k (hk : k < L) => show ∃ ad, A = some ad ∧ w3.cell? (ad.add k) = some (bc xs k) ∧ w3.cell? ⟨w2.heap.size, k, none⟩ = some (bc zs k) from by
    obtain ⟨ad, e, hc⟩ := (HR.out.kept0 H3.out.1).rd k (by rw [HL.out]; exact hk)
    obtain ⟨ad', e', hc'⟩ := H3.out.2.2.rd k (by rw [HP.out]; exact hk)
    cases e'
    rw [add_plain, Nat.zero_add] at hc'
    exact ⟨ad, e, hc, hc'⟩)
  have FV := Lib.hid (four_shr v)
  generalize w2.heap.size = k1 at *
  generalize w3 = W3 at *
  have HMM := Lib.hid (And.intro H3.out.1 H3.out.2.1)
  clear H1 H2
  go_loopw [12] (fun j wr => ∃ k : Nat, k ≤ L ∧ j = .int .i64 k ∧ wr = W3) (fun j _ => L - (intOf j).toNat)
  case atStart => exact ⟨0, Nat.zero_le _, rfl, rfl⟩
  case round =>
    obtain ⟨k, hk, rfl, rfl⟩ := hrel
    have hk0 : (0 : Int) ≤ (k : Int) := by omega
    by_cases hlt : (k : Int) < (L : Int)
    · obtain ⟨ad, rfl, c1, c2⟩ := HK.out k (by omega)
      have G := HG.out k
      rw [four_len] at G
      unfold bc at c1 c2
      by_cases hin : i ≤ k ∧ k < i + 4
      · rw [if_pos hin] at G
        have g1 : (i : Int) ≤ (k : Int) := by omega
        have g2 : (k : Int) < (i : Int) + 4 := by omega
        obtain ⟨f0, f1, f2, f3⟩ := FV.out
        obtain e | e | e | e : (k : Int) - (i : Int) = 0 ∨ (k : Int) - (i : Int) = 1 ∨ (k : Int) - (i : Int) = 2 ∨ (k : Int) - (i : Int) = 3 := by omega
        · rw [show k - i = 0 by omega] at G
          rw [G] at c2
          clear G hin
          generalize (four v).getD 0 0 = d at *
          go_wp2
          go_roundw
          case rel => exact ⟨k + 1, by omega, by go_num, trivial⟩
          case measure => simp [intOf]; omega
        · rw [show k - i = 1 by omega] at G
          rw [G] at c2
          clear G hin
          generalize (four v).getD 1 0 = d at *
          go_wp2
          go_roundw
          case rel => exact ⟨k + 1, by omega, by go_num, trivial⟩
          case measure => simp [intOf]; omega
        · rw [show k - i = 2 by omega] at G
          rw [G] at c2
          clear G hin
          generalize (four v).getD 2 0 = d at *
          go_wp2
          go_roundw
          case rel => exact ⟨k + 1, by omega, by go_num, trivial⟩
          case measure => simp [intOf]; omega
        · rw [show k - i = 3 by omega] at G
          rw [G] at c2
          clear G hin
          generalize (four v).getD 3 0 = d at *
          go_wp2
          go_roundw
          case rel => exact ⟨k + 1, by omega, by go_num, trivial⟩
          case measure => simp [intOf]; omega
      · rw [if_neg hin] at G
        rw [G] at c2
        clear G
        by_cases g1 : (i : Int) ≤ (k : Int)
        · have g2 : ¬ (k : Int) < (i : Int) + 4 := by omega
          clear hin
          go_wp2
          go_roundw
          case rel => exact ⟨k + 1, by omega, by go_num, trivial⟩
          case measure => simp [intOf]; omega
        · clear hin
          go_wp2
          go_roundw
          case rel => exact ⟨k + 1, by omega, by go_num, trivial⟩
          case measure => simp [intOf]; omega
    · obtain rfl : L = k := by omega
      go_wp2_with (first
        | (go_at_call 19; (with_reducible refine (CW.out _ _ _ HMM.out.2).mono ?_); rintro e w4 ⟨rfl, g4⟩; have H4 := Lib.hid (g_trans HMM.out.1 g4); clear g4)
        | (go_at_call 13; (with_reducible refine (head_any _).mono ?_); rintro e w5 ⟨rfl, g5⟩; have H5 := Lib.hid g5; clear g5))
      go_ret
      exact ⟨rfl, g_below0 (g_trans H4.out H5.out)⟩
theorem walkMemWords (a0 : Option Addr) (len0 cap0 : Nat) (z0 : List Int) (a1 a2 : Int) (w : World) (w0 : Came w a0 len0 cap0 z0) (w1 : (Lit.int .i32 a1).wf = true) (w2 : (Lit.int .i32 a2).wf = true) :
    Calls Try.prog 7 #[.slice a0 len0 cap0, .int .i32 a1, .int .i32 a2] w fun e w' => e = .returned (.bool true) ∧ Below w.heap.size w w' := by
  obtain ⟨xs, rfl, R, _⟩ := w0.rs
  by_cases h : 65536 < xs.length
  · exact words_head a1 a2 w h
  · rcases hm : may xs.length with _ | _
    · exact words_no a1 a2 w (by omega) hm
    · by_cases ho : wx a1 + 4 ≤ xs.length
      · exact words_in R hm (isW_of_wf w1) (isW_of_wf w2) ho
      · exact words_out R hm (isW_of_wf w1) ho
end Go.Proofs.Ytjdinppblejcdaa
