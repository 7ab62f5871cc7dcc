/- The laws on division and on part words return true for all words. -/
import Derived.Test.YtjeicjlaoakgfaaDoorLaws3
namespace Go.Proofs.YtjeicjlaoakgfaaDoor
open Go Go.RowKit

theorem abs_any (v : Int) (hv : isW v) (w : World) : Calls Tryd.prog 45 #[.int .i32 v] w fun e w' => e = .returned (.int .i64 (v.natAbs : Int)) ∧ w = w' := by
  obtain ⟨v0, v1⟩ := hv
  by_cases h : v ≤ -v
  all_goals
    go_enter Tryd.func45, Tryd.ntmps45
    go_wp2
    go_ret
    exact ⟨ret_i (by omega), rfl⟩
theorem mul_sign {a r : Int} (h : (a < 0 → r ≤ 0) ∧ (0 ≤ a → 0 ≤ r)) : 0 ≤ a * r := by
  rcases Int.lt_or_le a 0 with h1 | h1
  · exact Int.mul_nonneg_of_nonpos_of_nonpos (by omega) (h.1 h1)
  · exact Int.mul_nonneg h1 (h.2 h1)
set_option maxRecDepth 100000 in
set_option maxHeartbeats 1000000 in
theorem walkWordDivides (a0 : Int) (w0 : (Lit.int .i32 a0).wf = true) (a1 : Int) (w1 : (Lit.int .i32 a1).wf = true) (w : World) (ht : Tab w) :
    Calls Tryd.prog 8 #[.int .i32 a0, .int .i32 a1] w fun e w' => e = .returned (.bool true) ∧ Below w.heap.size w w' := by
  have ha := isW_of_wf w0
  have hb := isW_of_wf w1
  clear w0 w1
  have W := Lib.hid (works_any w ht)
  clear ht
  by_cases hb0 : a1 = 0
  · subst hb0
    have D := Lib.hid fun W => at_ib (Div_any a0 0 ha W) (b := 0) (q := true) rfl rfl
    have R := Lib.hid fun W => at_ib (Rem_any a0 0 ha hb W) (b := 0) (q := true) rfl rfl
    go_enter Tryd.func8, Tryd.ntmps8
    go_wp2_with (first
      | (go_at_call 24; refine (D.out _).mono ?_; rintro e w' ⟨rfl, rfl⟩)
      | (go_at_call 26; refine (R.out _).mono ?_; rintro e w' ⟨rfl, rfl⟩)
      | (go_at_call 21; refine W.out.mono ?_; rintro e w1 ⟨rfl, hb1⟩))
    go_ret
    exact ⟨rfl, hb1⟩
  · by_cases hbig : a0 = -2147483648 ∧ a1 = -1
    · obtain ⟨rfl, rfl⟩ := hbig
      have D := Lib.hid fun W => at_ib (Div_any (-2147483648) (-1) ha W) (b := 0) (q := true) (by decide +kernel) (by decide +kernel)
      have R := Lib.hid fun W => at_ib (Rem_any (-2147483648) (-1) ha hb W) (b := 0) (q := false) (by decide +kernel) (by decide +kernel)
      go_enter Tryd.func8, Tryd.ntmps8
      go_wp2_with (first
        | (go_at_call 24; refine (D.out _).mono ?_; rintro e w' ⟨rfl, rfl⟩)
        | (go_at_call 26; refine (R.out _).mono ?_; rintro e w' ⟨rfl, rfl⟩)
        | (go_at_call 21; refine W.out.mono ?_; rintro e w1 ⟨rfl, hb1⟩))
      go_ret
      exact ⟨rfl, hb1⟩
    · have hq := tdiv_bd ha hb0 hbig
      have hr := tmod_bd (b := a1) ha
      have h1 : (a1 == 0) = false := by simpa using hb0
      have hg : ((a0 == -2147483648) && (a1 == -1)) = false := by
        cases h2 : (a0 == -2147483648) <;> cases h3 : (a1 == -1) <;> simp_all
      have hne : divB a0 a1 = false := by unfold divB; rw [h1, hg]; rfl
      have hqr : divR a0 a1 = a0.tdiv a1 := by unfold divR; rw [hne]; simp
      have hrr : remR a0 a1 = a0.tmod a1 := by unfold remR; rw [h1]; simp
      have heq : a1 * a0.tdiv a1 + a0.tmod a1 = a0 := Int.mul_tdiv_add_tmod a0 a1
      have hlt : ((a0.tmod a1).natAbs : Int) < (a1.natAbs : Int) := by
        rw [Int.natAbs_tmod]
        have : a0.natAbs % a1.natAbs < a1.natAbs := Nat.mod_lt _ (by omega)
        omega
      have hsg := mul_sign (tmod_sign (a := a0) (b := a1))
      have D := Lib.hid fun W => at_ib (Div_any a0 a1 ha W) hqr hne
      have R := Lib.hid fun W => at_ib (Rem_any a0 a1 ha hb W) hrr h1
      have S1 := Lib.hid fun W => abs_any _ hr W
      have S2 := Lib.hid fun W => abs_any _ hb W
      obtain ⟨m0, m1⟩ := mul_bd hb hq
      obtain ⟨n0, n1⟩ := mul_bd ha hr
      have e1 : ((a1 * a0.tdiv a1 + a0.tmod a1 : Int) == a0) = true := by rw [heq]; simp
      have HG : ¬ (a0 == -2147483648) = true ∨ ¬ (a1 == -1) = true := by
        cases h2 : (a0 == -2147483648) <;> cases h3 : (a1 == -1) <;> simp_all
      clear hne hqr hrr heq hbig hg
      generalize a0.tdiv a1 = q at *
      generalize a0.tmod a1 = r at *
      unfold isW at ha hb hq hr
      obtain ⟨a00, a01⟩ := ha
      obtain ⟨b00, b01⟩ := hb
      obtain ⟨q00, q01⟩ := hq
      obtain ⟨r00, r01⟩ := hr
      generalize hx : (r.natAbs : Int) = x at *
      generalize hy : (a1.natAbs : Int) = y at *
      clear hx hy
      have HH : ((a0 == -2147483648) = false) ∨ ((a0 == -2147483648) = true ∧ (a1 == -1) = false) := by
        cases h2 : (a0 == -2147483648) <;> cases h3 : (a1 == -1) <;> simp_all
      clear HG
      rcases HH with h2 | ⟨h2, h3⟩
      all_goals
        go_enter Tryd.func8, Tryd.ntmps8
        go_wp2_with fail
        refine (D.out _).mono ?_
        rintro e w' ⟨rfl, rfl⟩
        go_wp2_with fail
        refine (R.out _).mono ?_
        rintro e w' ⟨rfl, rfl⟩
        go_wp2_with fail
        refine (S1.out _).mono ?_
        rintro e w' ⟨rfl, rfl⟩
        go_wp2_with fail
        refine (S2.out _).mono ?_
        rintro e w' ⟨rfl, rfl⟩
        go_wp2_with fail
        refine W.out.mono ?_
        rintro e w1 ⟨rfl, hb1⟩
        go_wp2
        go_ret
        exact ⟨rfl, hb1⟩

end Go.Proofs.YtjeicjlaoakgfaaDoor
