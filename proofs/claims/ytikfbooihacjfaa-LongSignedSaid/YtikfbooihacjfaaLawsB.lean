/- The law on signed and unsigned sums returns true for all words. -/
import Derived.Test.YtikfbooihacjfaaAwake
namespace Go.Proofs.Ytikfbooihacjfaa
open Go Go.RowKit

theorem over_neg {x : Int} (h : x < -2147483648 ∨ 2147483648 ≤ x) : overB x = true := by
  unfold overB
  rcases h with h | h <;> simp <;> omega
theorem over_not {x : Int} (h : -2147483648 ≤ x) (h' : x < 2147483648) : overB x = false := by
  unfold overB
  simp; omega
theorem Sum_as (a b c : Int) (w : World) : ∃ y, Calls Try.prog 20 #[.int .i32 a, .int .i32 b, .int .i32 c] w fun e w' => e = .returned (.tuple #[.int .i32 (wrap32 (a + b + c % 2)), .int .i32 y]) ∧ Below w.heap.size w w' :=
  ⟨_, at_ (Sum_any a b c w) (ret_ii (by unfold wd cb U wrap32; omega) rfl)⟩
theorem Diff_as (a b c : Int) (w : World) : ∃ y, Calls Try.prog 22 #[.int .i32 a, .int .i32 b, .int .i32 c] w fun e w' => e = .returned (.tuple #[.int .i32 (wrap32 (a - b - c % 2)), .int .i32 y]) ∧ Below w.heap.size w w' :=
  ⟨_, at_ (Diff_any a b c w) (ret_ii (by unfold dif cb U wrap32; omega) rfl)⟩
theorem Sum_fix (a b c : Int) : ∃ y, ∀ w : World, Calls Try.prog 20 #[.int .i32 a, .int .i32 b, .int .i32 c] w fun e w' => e = .returned (.tuple #[.int .i32 (wrap32 (a + b + c % 2)), .int .i32 y]) ∧ Below w.heap.size w w' :=
  ⟨_, fun w => at_ (Sum_any a b c w) (ret_ii (by unfold wd cb U wrap32; omega) rfl)⟩
theorem Diff_fix (a b c : Int) : ∃ y, ∀ w : World, Calls Try.prog 22 #[.int .i32 a, .int .i32 b, .int .i32 c] w fun e w' => e = .returned (.tuple #[.int .i32 (wrap32 (a - b - c % 2)), .int .i32 y]) ∧ Below w.heap.size w w' :=
  ⟨_, fun w => at_ (Diff_any a b c w) (ret_ii (by unfold dif cb U wrap32; omega) rfl)⟩
theorem back_add {a b c : Int} (ha : isW a) : wrap32 (wrap32 (a + b + c) - b - c) = a := by unfold isW at ha; unfold wrap32; omega
theorem back_sub {a b c : Int} (ha : isW a) : wrap32 (wrap32 (a - b - c) + b + c) = a := by unfold isW at ha; unfold wrap32; omega
/-- The tests of the law, at each way of the signs. -/
def sgnFacts (a b r s : Int) (o l : Bool) : Prop :=
  (o = ((decide (a < 0) == decide (b < 0)) && (decide (r < 0) != decide (a < 0)))) ∧ (l = ((decide (a < 0) != decide (b < 0)) && (decide (s < 0) != decide (a < 0))))
theorem sgn_facts (a b c : Int) (ha : isW a) (hb : isW b) : sgnFacts a b (wrap32 (a + b + c % 2)) (wrap32 (a - b - c % 2)) (overB (a + b + c % 2)) (overB (a - b - c % 2)) := by
  unfold isW at ha hb
  have hc : 0 ≤ c % 2 ∧ c % 2 ≤ 1 := by omega
  generalize c % 2 = z at *
  constructor
  · by_cases h : a + b + z < -2147483648 ∨ 2147483648 ≤ a + b + z
    · rw [over_neg h]
      unfold wrap32
      by_cases h1 : a < 0
      · have h2 : b < 0 := by omega
        have h3 : ¬ (a + b + z + 2147483648) % 4294967296 - 2147483648 < 0 := by omega
        simp only [h1, h2, h3, decide_true, decide_false]; rfl
      · have h2 : ¬ b < 0 := by omega
        have h3 : (a + b + z + 2147483648) % 4294967296 - 2147483648 < 0 := by omega
        simp only [h1, h2, h3, decide_true, decide_false]; rfl
    · rw [over_not (by omega) (by omega)]
      have e : wrap32 (a + b + z) = a + b + z := wrap32_in (by unfold isW; omega)
      rw [e]
      by_cases h1 : a < 0 <;> by_cases h2 : b < 0
      · have h3 : a + b + z < 0 := by omega
        simp only [h1, h2, h3, decide_true]; rfl
      · simp only [h1, h2, decide_true, decide_false]; rfl
      · simp only [h1, h2, decide_true, decide_false]; rfl
      · have h3 : ¬ a + b + z < 0 := by omega
        simp only [h1, h2, h3, decide_false]; rfl
  · by_cases h : a - b - z < -2147483648 ∨ 2147483648 ≤ a - b - z
    · rw [over_neg h]
      unfold wrap32
      by_cases h1 : a < 0
      · have h2 : ¬ b < 0 := by omega
        have h3 : ¬ (a - b - z + 2147483648) % 4294967296 - 2147483648 < 0 := by omega
        simp only [h1, h2, h3, decide_true, decide_false]; rfl
      · have h2 : b < 0 := by omega
        have h3 : (a - b - z + 2147483648) % 4294967296 - 2147483648 < 0 := by omega
        simp only [h1, h2, h3, decide_true, decide_false]; rfl
    · rw [over_not (by omega) (by omega)]
      have e : wrap32 (a - b - z) = a - b - z := wrap32_in (by unfold isW; omega)
      rw [e]
      by_cases h1 : a < 0 <;> by_cases h2 : b < 0
      · simp only [h1, h2, decide_true]; rfl
      · have h3 : a - b - z < 0 := by omega
        simp only [h1, h2, h3, decide_true, decide_false]; rfl
      · have h3 : ¬ a - b - z < 0 := by omega
        simp only [h1, h2, h3, decide_true, decide_false]; rfl
      · simp only [h1, h2, decide_false]; rfl
set_option maxRecDepth 100000 in
set_option maxHeartbeats 8000000 in
theorem walkLongSigned (a0 a1 a2 a3 : Int) (w0 : (Lit.int .i32 a0).wf = true) (w1 : (Lit.int .i32 a1).wf = true) (_w2 : (Lit.int .i32 a2).wf = true) (w3 : (Lit.int .i32 a3).wf = true) (w : World) :
    Calls Try.prog 10 #[.int .i32 a0, .int .i32 a1, .int .i32 a2, .int .i32 a3] w fun e w' => e = .returned (.bool true) ∧ Below w.heap.size w w' := by
  have ha := isW_of_wf w0
  have hb := isW_of_wf w1
  have hd := isW_of_wf w3
  have hF := sgn_facts a0 a1 a2 ha hb
  have c1 := Lib.hid (Add_any a0 a1 a2 ha hb)
  obtain ⟨y2, d2⟩ := Sum_fix a0 a1 a2
  have c2 := Lib.hid d2
  have c3 := Lib.hid (Sub_any a0 a1 a2 ha hb)
  obtain ⟨y4, d4⟩ := Diff_fix a0 a1 a2
  have c4 := Lib.hid d4
  have d5 := Sub_any (wrap32 (a0 + a1 + a2 % 2)) a1 a2 (isW_wrap32 _) hb
  rw [back_add ha] at d5
  have c5 := Lib.hid d5
  have d6 := Add_any (wrap32 (a0 - a1 - a2 % 2)) a1 a2 (isW_wrap32 _) hb
  rw [back_sub ha] at d6
  have c6 := Lib.hid d6
  have c7 := Lib.hid (Xdble_any a0 ha)
  have hs : isW (sgn a0) := by unfold isW sgn; split <;> omega
  have d8 := Csngl_any a0 (sgn a0) ha hs
  rw [show (sgn a0 != sgn a0) = false by simp] at d8
  have c8 := Lib.hid d8
  have c9 := Lib.hid (Csngl_any a0 a3 ha hd)
  clear w0 w1 w3 ha hb hd d2 d4 d5 d6 d8 hs
  generalize wrap32 (a0 + a1 + a2 % 2) = r at *
  generalize overB (a0 + a1 + a2 % 2) = o at *
  generalize wrap32 (a0 - a1 - a2 % 2) = s at *
  generalize overB (a0 - a1 - a2 % 2) = l at *
  generalize overB (r - a1 - a2 % 2) = o5 at *
  generalize overB (s + a1 + a2 % 2) = o6 at *
  generalize sgn a0 = g at *
  obtain ⟨ho, hl⟩ := hF
  by_cases h1 : a0 < 0 <;> by_cases h2 : a1 < 0 <;> by_cases h3 : r < 0 <;> by_cases h4 : s < 0
  all_goals
    simp only [h1, h2, h3, h4, decide_true, decide_false] at ho hl
    cases o <;> cases l
  all_goals first | (exact absurd ho (by decide)) | (exact absurd hl (by decide)) | skip
  all_goals
    clear ho hl
    go_enter Try.func10, Try.ntmps10
    go_wp2_with (first
      | (go_at_call 11; (with_reducible refine (c1.out _).mono ?_); rintro e w' ⟨rfl, rfl⟩)
      | (go_at_call 20; (with_reducible refine (c2.out _).mono ?_); rintro e w2 ⟨rfl, b2⟩)
      | (go_at_call 13; (with_reducible refine (c3.out _).mono ?_); rintro e w' ⟨rfl, rfl⟩)
      | (go_at_call 22; (with_reducible refine (c4.out _).mono ?_); rintro e w4 ⟨rfl, b4⟩)
      | (go_at_call 13; (with_reducible refine (c5.out _).mono ?_); rintro e w' ⟨rfl, rfl⟩)
      | (go_at_call 11; (with_reducible refine (c6.out _).mono ?_); rintro e w' ⟨rfl, rfl⟩)
      | (go_at_call 15; (with_reducible refine (c7.out _).mono ?_); rintro e w7 ⟨rfl, b7⟩)
      | (go_at_call 17; (with_reducible refine (c8.out _).mono ?_); rintro e w8 ⟨rfl, b8⟩)
      | (go_at_call 17; (with_reducible refine (c9.out _).mono ?_); rintro e w9 ⟨rfl, b9⟩)
      | (go_at_call 19; (with_reducible refine (awake_any _).mono ?_); rintro e w10 ⟨rfl, b10⟩))
    go_ret
    exact ⟨rfl, blw (blw (blw (blw (blw b2 b4) b7) b8) b9) b10⟩
end Go.Proofs.Ytikfbooihacjfaa
