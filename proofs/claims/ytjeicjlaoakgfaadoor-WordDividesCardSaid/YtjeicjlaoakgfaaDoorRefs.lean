/- Contracts of the integer functions of the reference of layer 1: each returns what its twin of package word returns, for all words. -/
import Derived.Test.YtjeicjlaoakgfaaDoorInts
namespace Go.Proofs.YtjeicjlaoakgfaaDoor
open Go Go.RowKit

theorem emod_of_tmod_neg {t : Int} (h : t.tmod 4294967296 < 0) : t.tmod 4294967296 + 4294967296 = t % 4294967296 := by
  have h1 : t = 4294967296 * t.tdiv 4294967296 + t.tmod 4294967296 := (Int.mul_tdiv_add_tmod t 4294967296).symm
  have h2 := Int.lt_tmod_of_pos t (show (0 : Int) < 4294967296 by omega)
  generalize t.tmod 4294967296 = r at *
  generalize t.tdiv 4294967296 = q at *
  omega
theorem emod_of_tmod_nonneg {t : Int} (h : ¬ t.tmod 4294967296 < 0) : t.tmod 4294967296 = t % 4294967296 := by
  have h1 : t = 4294967296 * t.tdiv 4294967296 + t.tmod 4294967296 := (Int.mul_tdiv_add_tmod t 4294967296).symm
  have h2 := Int.tmod_lt_of_pos t (show (0 : Int) < 4294967296 by omega)
  generalize t.tmod 4294967296 = r at *
  generalize t.tdiv 4294967296 = q at *
  omega
theorem tmod_rng (t : Int) : -4294967296 < t.tmod 4294967296 ∧ t.tmod 4294967296 < 4294967296 :=
  ⟨Int.lt_tmod_of_pos t (by omega), Int.tmod_lt_of_pos t (by omega)⟩
/-- A number far from the ends of an int64. -/
def isD (t : Int) : Prop := -4611686018427387904 ≤ t ∧ t ≤ 4611686018427387904
theorem Wrap_neg (t : Int) (ht : isD t) (_hs : t < 0) (w : World) : Calls Tryd.prog 48 #[.int .i64 t] w fun e w' => e = .returned (.int .i32 (wrap32 t)) ∧ w = w' := by
  obtain ⟨t0, t1⟩ := ht
  obtain ⟨r0, r1⟩ := tmod_rng t
  have hw : wrap32 (wrap32 (t % 4294967296)) = wrap32 t := by unfold wrap32; omega
  have hw' : wrap32 (wrap32 (t % 4294967296) - 4294967296) = wrap32 t := by unfold wrap32; omega
  by_cases hn : t.tmod 4294967296 < 0
  · have he := emod_of_tmod_neg hn
    by_cases hh : 2147483648 ≤ t.tmod 4294967296 + 4294967296
    all_goals
      have He := Lib.hid he
      have Hw := Lib.hid hw
      clear he hw hw'
      go_enter Tryd.func48, Tryd.ntmps48
      go_wp2
      go_ret
      exact ⟨ret_i (by rw [← Hw.out, ← He.out]; unfold wrap32; omega), rfl⟩
  · have he := emod_of_tmod_nonneg hn
    by_cases hh : 2147483648 ≤ t.tmod 4294967296
    all_goals
      have He := Lib.hid he
      have Hw := Lib.hid hw
      clear he hw hw'
      go_enter Tryd.func48, Tryd.ntmps48
      go_wp2
      go_ret
      exact ⟨ret_i (by rw [← Hw.out, ← He.out]; unfold wrap32; omega), rfl⟩
theorem Wrap_any (t : Int) (ht : isD t) (w : World) : Calls Tryd.prog 48 #[.int .i64 t] w fun e w' => e = .returned (.int .i32 (wrap32 t)) ∧ w = w' := by
  rcases Int.lt_or_le t 0 with hs | hs
  · exact Wrap_neg t ht hs w
  · obtain ⟨t0, t1⟩ := ht
    by_cases hh : 2147483648 ≤ t % 4294967296
    all_goals
      go_enter Tryd.func48, Tryd.ntmps48
      go_wp2
      go_ret
      exact ⟨ret_i (by unfold wrap32; omega), rfl⟩
theorem Fits_any (t : Int) (w : World) : Calls Tryd.prog 49 #[.int .i64 t] w fun e w' => e = .returned (.bool (!overB t)) ∧ w = w' := by
  by_cases h : -2147483648 ≤ t
  · go_enter Tryd.func49, Tryd.ntmps49
    go_wp2
    go_ret
    exact ⟨ret_b (by unfold overB; simp [h]), rfl⟩
  · go_enter Tryd.func49, Tryd.ntmps49
    go_wp2
    go_ret
    exact ⟨ret_b (by unfold overB; simp; omega), rfl⟩
theorem Unsigned_any (v : Int) (hv : isW v) (w : World) : Calls Tryd.prog 53 #[.int .i32 v] w fun e w' => e = .returned (.int .i64 (v % 4294967296)) ∧ w = w' := by
  obtain ⟨v0, v1⟩ := hv
  by_cases h : v < 0
  all_goals
    go_enter Tryd.func53, Tryd.ntmps53
    go_wp2
    go_ret
    exact ⟨ret_i (by omega), rfl⟩
theorem size_any (v : Int) (hv : isW v) (w : World) : Calls Tryd.prog 50 #[.int .i32 v] w fun e w' => e = .returned (.int .i64 (v.natAbs : Int)) ∧ w = w' := by
  obtain ⟨v0, v1⟩ := hv
  by_cases h : v < 0
  all_goals
    go_enter Tryd.func50, Tryd.ntmps50
    go_wp2
    go_ret
    exact ⟨ret_i (by omega), rfl⟩
theorem RAdd_any (a b : Int) (ha : isW a) (hb : isW b) (w : World) : Calls Tryd.prog 14 #[.int .i32 a, .int .i32 b] w fun e w' => e = .returned (.tuple #[.int .i32 (wrap32 (a + b)), .bool (overB (a + b))]) ∧ w = w' := by
  obtain ⟨a0, a1⟩ := ha
  obtain ⟨b0, b1⟩ := hb
  have hd : isD (a + b) := ⟨by omega, by omega⟩
  go_enter Tryd.func14, Tryd.ntmps14
  go_wp2_with (first | (go_at_call 48; refine (Wrap_any _ hd _).mono ?_; rintro e w' ⟨rfl, rfl⟩) | (go_at_call 49; refine (Fits_any _ _).mono ?_; rintro e w' ⟨rfl, rfl⟩))
  go_ret2
  exact ⟨ret_ib rfl (by simp), rfl⟩
theorem RSub_any (a b : Int) (ha : isW a) (hb : isW b) (w : World) : Calls Tryd.prog 16 #[.int .i32 a, .int .i32 b] w fun e w' => e = .returned (.tuple #[.int .i32 (wrap32 (a - b)), .bool (overB (a - b))]) ∧ w = w' := by
  obtain ⟨a0, a1⟩ := ha
  obtain ⟨b0, b1⟩ := hb
  have hd : isD (a - b) := ⟨by omega, by omega⟩
  go_enter Tryd.func16, Tryd.ntmps16
  go_wp2_with (first | (go_at_call 48; refine (Wrap_any _ hd _).mono ?_; rintro e w' ⟨rfl, rfl⟩) | (go_at_call 49; refine (Fits_any _ _).mono ?_; rintro e w' ⟨rfl, rfl⟩))
  go_ret2
  exact ⟨ret_ib rfl (by simp), rfl⟩
theorem RMul_any (a b : Int) (ha : isW a) (hb : isW b) (w : World) : Calls Tryd.prog 23 #[.int .i32 a, .int .i32 b] w fun e w' => e = .returned (.tuple #[.int .i32 (wrap32 (a * b)), .bool (overB (a * b))]) ∧ w = w' := by
  have hd : isD (a * b) := mul_bd ha hb
  obtain ⟨m0, m1⟩ := mul_bd ha hb
  obtain ⟨a0, a1⟩ := ha
  obtain ⟨b0, b1⟩ := hb
  go_enter Tryd.func23, Tryd.ntmps23
  go_wp2_with (first | (go_at_call 48; refine (Wrap_any _ hd _).mono ?_; rintro e w' ⟨rfl, rfl⟩) | (go_at_call 49; refine (Fits_any _ _).mono ?_; rintro e w' ⟨rfl, rfl⟩))
  go_ret2
  exact ⟨ret_ib rfl (by simp), rfl⟩
theorem RAfter_any (a b : Int) (ha : isW a) (hb : isW b) (w : World) : Calls Tryd.prog 20 #[.int .i32 a, .int .i32 b] w fun e w' => e = .returned (.bool (aftB a b)) ∧ w = w' := by
  go_enter Tryd.func20, Tryd.ntmps20
  go_wp2_with (go_at_call 16; refine (RSub_any _ _ ha hb _).mono ?_; rintro e w' ⟨rfl, rfl⟩)
  go_ret
  exact ⟨ret_b rfl, rfl⟩
theorem tdiv_same {a b : Int} (h : (a < 0) ↔ (b < 0)) : a.tdiv b = (a.natAbs : Int) / (b.natAbs : Int) := by
  rcases Int.lt_or_le a 0 with ha | ha
  · have hb := h.1 ha
    rw [show (a.natAbs : Int) = -a by omega, show (b.natAbs : Int) = -b by omega, ← Int.tdiv_eq_ediv_of_nonneg (by omega), Int.neg_tdiv, Int.tdiv_neg, Int.neg_neg]
  · have hb : ¬ b < 0 := fun hb => by have := h.2 hb; omega
    rw [show (a.natAbs : Int) = a by omega, show (b.natAbs : Int) = b by omega, ← Int.tdiv_eq_ediv_of_nonneg (by omega)]
theorem tdiv_other {a b : Int} (h : ¬ ((a < 0) ↔ (b < 0))) : a.tdiv b = -((a.natAbs : Int) / (b.natAbs : Int)) := by
  rcases Int.lt_or_le a 0 with ha | ha
  · have hb : ¬ b < 0 := fun hb => h ⟨fun _ => hb, fun _ => ha⟩
    rw [show (a.natAbs : Int) = -a by omega, show (b.natAbs : Int) = b by omega, ← Int.tdiv_eq_ediv_of_nonneg (by omega), Int.neg_tdiv, Int.neg_neg]
  · have hb : b < 0 := by
      rcases Int.lt_or_le b 0 with hb | hb
      · exact hb
      · exact absurd ⟨fun h => by omega, fun h => by omega⟩ h
    rw [show (a.natAbs : Int) = a by omega, show (b.natAbs : Int) = -b by omega, ← Int.tdiv_eq_ediv_of_nonneg (by omega), Int.tdiv_neg, Int.neg_neg]
theorem quo_bd {a b : Int} (ha : isW a) : 0 ≤ (a.natAbs : Int) / (b.natAbs : Int) ∧ (a.natAbs : Int) / (b.natAbs : Int) ≤ 2147483648 := by
  obtain ⟨a0, a1⟩ := ha
  have hm : a.natAbs ≤ 2147483648 := by omega
  have hd : a.natAbs / b.natAbs ≤ a.natAbs := Nat.div_le_self ..
  have hc : ((a.natAbs / b.natAbs : Nat) : Int) = (a.natAbs : Int) / (b.natAbs : Int) := Int.natCast_ediv ..
  rw [← hc]
  generalize a.natAbs / b.natAbs = q at *
  generalize a.natAbs = m at *
  omega
theorem size_as {v x : Int} (hx : Hid ((v.natAbs : Int) = x)) (hv : isW v) (w : World) : Calls Tryd.prog 50 #[.int .i32 v] w fun e w' => e = .returned (.int .i64 x) ∧ w = w' := by
  have h := size_any v hv w
  rw [hx.out] at h
  exact h
theorem RDiv_any (a b : Int) (ha : isW a) (hb : isW b) (w : World) : Calls Tryd.prog 25 #[.int .i32 a, .int .i32 b] w fun e w' => e = .returned (.tuple #[.int .i32 (divR a b), .bool (divB a b)]) ∧ w = w' := by
  by_cases hb0 : b = 0
  · subst hb0
    go_enter Tryd.func25, Tryd.ntmps25
    go_wp2
    go_ret2
    exact ⟨ret_ib rfl rfl, rfl⟩
  · by_cases hbig : a = -2147483648 ∧ b = -1
    · obtain ⟨rfl, rfl⟩ := hbig
      have ho : overB 2147483648 = true := by decide
      go_enter Tryd.func25, Tryd.ntmps25
      go_wp2_with (first | (go_at_call 50; refine (size_any _ (by assumption) _).mono ?_; rintro e w' ⟨rfl, rfl⟩) | (go_at_call 49; refine (Fits_any _ _).mono ?_; rintro e w' ⟨rfl, rfl⟩))
      go_ret2
      exact ⟨ret_ib rfl rfl, rfl⟩
    · have hw := tdiv_bd ha hb0 hbig
      obtain ⟨q0, q1⟩ := quo_bd (b := b) ha
      have hne : divB a b = false := by
        unfold divB
        have h1 : (b == 0) = false := by simpa using hb0
        rw [h1]
        cases h2 : (a == -2147483648) <;> cases h3 : (b == -1) <;> simp_all
      have hr : divR a b = a.tdiv b := by unfold divR; rw [hne]; simp
      have b1 : 1 ≤ (b.natAbs : Int) := by omega
      have a1 : 0 ≤ (a.natAbs : Int) := by omega
      have a2 : (a.natAbs : Int) ≤ 2147483648 := by unfold isW at ha; omega
      have b2 : (b.natAbs : Int) ≤ 2147483648 := by unfold isW at hb; omega
      have same : ((a < 0) ↔ (b < 0)) → Hid (a.tdiv b = (a.natAbs : Int) / (b.natAbs : Int)) ∧ overB ((a.natAbs : Int) / (b.natAbs : Int)) = false ∧ (a.natAbs : Int) / (b.natAbs : Int) ≤ 2147483647 := fun hs => by
        have hq := tdiv_same hs
        rw [hq] at hw
        obtain ⟨w0, w1⟩ := hw
        exact ⟨Lib.hid hq, by unfold overB; simp; omega, w1⟩
      have other : ¬ ((a < 0) ↔ (b < 0)) → Hid (a.tdiv b = -((a.natAbs : Int) / (b.natAbs : Int))) ∧ overB (-((a.natAbs : Int) / (b.natAbs : Int))) = false := fun hs => by
        have hq := tdiv_other hs
        rw [hq] at hw
        obtain ⟨w0, w1⟩ := hw
        exact ⟨Lib.hid hq, by unfold overB; simp; omega⟩
      have Hr := Lib.hid hr
      have Hne := Lib.hid hne
      clear hr hne hbig hw
      generalize hx : (a.natAbs : Int) = x at *
      generalize hy : (b.natAbs : Int) = y at *
      have Hx := Lib.hid hx
      have Hy := Lib.hid hy
      clear hx hy
      by_cases sa : a < 0 <;> by_cases sb : b < 0
      · obtain ⟨Hq, ho, q2⟩ := same ⟨fun _ => sb, fun _ => sa⟩
        clear same other
        have ea : decide (a < 0) = true := by simpa using sa
        have eb : decide (b < 0) = true := by simpa using sb
        go_enter Tryd.func25, Tryd.ntmps25
        go_wp2_with fail
        refine (size_as Hx ha _).mono ?_
        rintro e w' ⟨rfl, rfl⟩
        go_wp2_with fail
        refine (size_as Hy hb _).mono ?_
        rintro e w' ⟨rfl, rfl⟩
        go_wp2_with (go_at_call 49; refine (Fits_any _ _).mono ?_; rintro e w' ⟨rfl, rfl⟩)
        go_ret2
        exact ⟨ret_ib (by rw [Hr.out, Hq.out]) Hne.out.symm, rfl⟩
      · obtain ⟨Hq, ho⟩ := other (fun h => sb (h.1 sa))
        clear same other
        have ea : decide (a < 0) = true := by simpa using sa
        have eb : decide (b < 0) = false := by simpa using sb
        go_enter Tryd.func25, Tryd.ntmps25
        go_wp2_with fail
        refine (size_as Hx ha _).mono ?_
        rintro e w' ⟨rfl, rfl⟩
        go_wp2_with fail
        refine (size_as Hy hb _).mono ?_
        rintro e w' ⟨rfl, rfl⟩
        go_wp2_with (go_at_call 49; refine (Fits_any _ _).mono ?_; rintro e w' ⟨rfl, rfl⟩)
        go_ret2
        exact ⟨ret_ib (by rw [Hr.out, Hq.out]) Hne.out.symm, rfl⟩
      · obtain ⟨Hq, ho⟩ := other (fun h => sa (h.2 sb))
        clear same other
        have ea : decide (a < 0) = false := by simpa using sa
        have eb : decide (b < 0) = true := by simpa using sb
        go_enter Tryd.func25, Tryd.ntmps25
        go_wp2_with fail
        refine (size_as Hx ha _).mono ?_
        rintro e w' ⟨rfl, rfl⟩
        go_wp2_with fail
        refine (size_as Hy hb _).mono ?_
        rintro e w' ⟨rfl, rfl⟩
        go_wp2_with (go_at_call 49; refine (Fits_any _ _).mono ?_; rintro e w' ⟨rfl, rfl⟩)
        go_ret2
        exact ⟨ret_ib (by rw [Hr.out, Hq.out]) Hne.out.symm, rfl⟩
      · obtain ⟨Hq, ho, q2⟩ := same ⟨fun h => absurd h sa, fun h => absurd h sb⟩
        clear same other
        have ea : decide (a < 0) = false := by simpa using sa
        have eb : decide (b < 0) = false := by simpa using sb
        go_enter Tryd.func25, Tryd.ntmps25
        go_wp2_with fail
        refine (size_as Hx ha _).mono ?_
        rintro e w' ⟨rfl, rfl⟩
        go_wp2_with fail
        refine (size_as Hy hb _).mono ?_
        rintro e w' ⟨rfl, rfl⟩
        go_wp2_with (go_at_call 49; refine (Fits_any _ _).mono ?_; rintro e w' ⟨rfl, rfl⟩)
        go_ret2
        exact ⟨ret_ib (by rw [Hr.out, Hq.out]) Hne.out.symm, rfl⟩
theorem natAbs_mod {a b : Int} : ((a.natAbs : Int) % (b.natAbs : Int)) = ((a.tmod b).natAbs : Int) := by
  rw [Int.natAbs_tmod, ← Int.natCast_emod]
theorem tmod_sign {a b : Int} : (a < 0 → a.tmod b ≤ 0) ∧ (0 ≤ a → 0 ≤ a.tmod b) := by
  refine ⟨fun h => ?_, fun h => Int.tmod_nonneg b h⟩
  have := Int.tmod_nonneg (a := -a) b (by omega)
  rw [Int.neg_tmod] at this
  omega
theorem RRem_any (a b : Int) (ha : isW a) (hb : isW b) (w : World) : Calls Tryd.prog 27 #[.int .i32 a, .int .i32 b] w fun e w' => e = .returned (.tuple #[.int .i32 (remR a b), .bool (b == 0)]) ∧ w = w' := by
  by_cases hb0 : b = 0
  · subst hb0
    go_enter Tryd.func27, Tryd.ntmps27
    go_wp2
    go_ret2
    exact ⟨ret_ib rfl rfl, rfl⟩
  · have hw := tmod_bd (b := b) ha
    obtain ⟨w0, w1⟩ := hw
    have hm := natAbs_mod (a := a) (b := b)
    have hsg := tmod_sign (a := a) (b := b)
    have h1 : (b == 0) = false := by simpa using hb0
    have hr : remR a b = a.tmod b := by unfold remR; rw [h1]; simp
    have m0 : 0 ≤ (a.natAbs : Int) % (b.natAbs : Int) := by omega
    have m1 : (a.natAbs : Int) % (b.natAbs : Int) ≤ 2147483648 := by omega
    have b1 : 1 ≤ (b.natAbs : Int) := by omega
    have pos : ¬ a < 0 → Hid (a.tmod b = (a.natAbs : Int) % (b.natAbs : Int)) := fun h => Lib.hid (by have := hsg.2 (by omega); omega)
    have neg : a < 0 → Hid (a.tmod b = -((a.natAbs : Int) % (b.natAbs : Int))) := fun h => Lib.hid (by have := hsg.1 h; omega)
    have hp : ¬ a < 0 → (a.natAbs : Int) % (b.natAbs : Int) ≤ 2147483647 := fun h => by have := hsg.2 (by omega); omega
    have Hr := Lib.hid hr
    clear hr hm hsg
    by_cases sa : a < 0
    · have Hq := neg sa
      clear neg pos hp
      go_enter Tryd.func27, Tryd.ntmps27
      go_wp2_with (first | (go_at_call 50; refine (size_any _ (by assumption) _).mono ?_; rintro e w' ⟨rfl, rfl⟩))
      go_ret2
      exact ⟨ret_ib (by rw [Hr.out, Hq.out]) h1.symm, rfl⟩
    · have Hq := pos sa
      have m2 := hp sa
      clear neg pos hp
      go_enter Tryd.func27, Tryd.ntmps27
      go_wp2_with (first | (go_at_call 50; refine (size_any _ (by assumption) _).mono ?_; rintro e w' ⟨rfl, rfl⟩))
      go_ret2
      exact ⟨ret_ib (by rw [Hr.out, Hq.out]) h1.symm, rfl⟩
theorem RCsub0_any (a b : Int) (ha : isW a) (hb : isW b) (w : World) : Calls Tryd.prog 36 #[.int .i32 a, .int .i32 b] w fun e w' => e = .returned (.tuple #[.int .i32 a, .bool (decide (b % 4294967296 ≤ a % 4294967296))]) ∧ w = w' := by
  go_enter Tryd.func36, Tryd.ntmps36
  go_wp2_with (first | (go_at_call 53; refine (Unsigned_any _ (by assumption) _).mono ?_; rintro e w' ⟨rfl, rfl⟩))
  go_ret2
  exact ⟨ret_ib rfl rfl, rfl⟩
theorem RCcnt1_any (a b : Int) (ha : isW a) (hb : isW b) (w : World) : Calls Tryd.prog 38 #[.int .i32 a, .int .i32 b] w fun e w' => e = .returned (.tuple #[.int .i32 a, .bool ((a == 0) || decide (b % 4294967296 < a % 4294967296))]) ∧ w = w' := by
  cases h : (a == 0)
  all_goals
    go_enter Tryd.func38, Tryd.ntmps38
    go_wp2_with (first | (go_at_call 53; refine (Unsigned_any _ (by assumption) _).mono ?_; rintro e w' ⟨rfl, rfl⟩))
    go_ret2
    exact ⟨ret_ib rfl rfl, rfl⟩
theorem RXword_any (a b : Int) (ha : isW a) (hb : isW b) (w : World) : Calls Tryd.prog 40 #[.int .i32 a, .int .i32 b] w fun e w' => e = .returned (.int .i32 (xwR a b)) ∧ w = w' := by
  have hd : isD (a - 2 * b) := by unfold isW at ha hb; exact ⟨by omega, by omega⟩
  have ha' := ha
  have hb' := hb
  obtain ⟨a0, a1⟩ := ha'
  obtain ⟨b0, b1⟩ := hb'
  by_cases h : a % 4294967296 < b % 4294967296
  · have hr : xwR a b = a := by unfold xwR; rw [if_pos h]
    go_enter Tryd.func40, Tryd.ntmps40
    go_wp2_with (first | (go_at_call 53; refine (Unsigned_any _ (by assumption) _).mono ?_; rintro e w' ⟨rfl, rfl⟩))
    go_ret
    exact ⟨ret_i hr.symm, rfl⟩
  · have hr : xwR a b = wrap32 (a - 2 * b) := by unfold xwR; rw [if_neg h]
    go_enter Tryd.func40, Tryd.ntmps40
    go_wp2_with (first | (go_at_call 53; refine (Unsigned_any _ (by assumption) _).mono ?_; rintro e w' ⟨rfl, rfl⟩) | (go_at_call 48; refine (Wrap_any _ hd _).mono ?_; rintro e w' ⟨rfl, rfl⟩))
    go_ret
    exact ⟨ret_i hr.symm, rfl⟩
theorem RCword_any (a b : Int) (hb : isW b) (w : World) : Calls Tryd.prog 34 #[.int .i32 a, .int .i32 b] w fun e w' => e = .returned (.tuple #[.int .i32 a, .bool (cwB a b)]) ∧ w = w' := by
  have hd : isD (-b) := by unfold isW at hb; exact ⟨by omega, by omega⟩
  obtain ⟨b0, b1⟩ := hb
  by_cases h : b ≤ a
  · have hr : cwB a b = true := by unfold cwB; simp [h]
    go_enter Tryd.func34, Tryd.ntmps34
    go_wp2
    go_ret2
    exact ⟨ret_ib rfl hr.symm, rfl⟩
  · have hr : cwB a b = decide (a < wrap32 (0 - b)) := by unfold cwB; simp [h]
    have H := Lib.hid hr
    clear hr
    go_enter Tryd.func34, Tryd.ntmps34
    go_wp2_with (go_at_call 48; refine (Wrap_any _ hd _).mono ?_; rintro e w' ⟨rfl, rfl⟩)
    go_ret2
    exact ⟨ret_ib rfl (by rw [H.out]; simp), rfl⟩
end Go.Proofs.YtjeicjlaoakgfaaDoor
