/- word.value takes a text for what 'guessC' says. -/
import Derived.Test.YtldnmdadlgjbgaaDoorWn
set_option linter.unusedVariables false
set_option linter.unusedSimpArgs false
namespace Go.Proofs.YtldnmdadlgjbgaaDoor.W1
open Go Go.RowKit

theorem trim_hit (c : UInt8) (ds : List UInt8) : Lib.trimPrefix (c :: ds) [c] = ds ∧ Lib.hasPrefix (c :: ds) [c] = true := by
  have h : Lib.hasPrefix (c :: ds) [c] = true := by simp [Lib.hasPrefix, List.isPrefixOf]
  exact ⟨by unfold Lib.trimPrefix; rw [h]; rfl, h⟩
theorem trim_miss (c : UInt8) (l : List UInt8) (hl : l.head? ≠ some c) : Lib.trimPrefix l [c] = l ∧ Lib.hasPrefix l [c] = false := by
  have h : Lib.hasPrefix l [c] = false := by
    unfold Lib.hasPrefix
    cases l with
    | nil => rfl
    | cons d ds =>
      have : c ≠ d := fun e => hl (by rw [e]; rfl)
      simp [List.isPrefixOf, this]
  exact ⟨by unfold Lib.trimPrefix; rw [h]; rfl, h⟩
theorem natL_le {base : Nat} (hb : base = 10 ∨ base = 16) : ∀ (l : List UInt8) (n : Nat) {m : Nat}, n ≤ 68719476735 → natL base l n = some m → m ≤ 68719476735
  | [], n, m, hn, h => by injection h with h; omega
  | c :: cs, n, m, hn, h => by
    rw [natL_cons] at h
    cases hd : dval base c with
    | none => rw [hd] at h; cases h
    | some d =>
      rw [hd] at h
      have := dval_lt hb hd
      by_cases hbig : 4294967295 < n
      · simp [hbig] at h
      · simp only [if_neg hbig] at h
        exact natL_le hb cs _ (by rcases hb with rfl | rfl <;> omega) h
theorem natRes_bd {base : Nat} (hb : base = 10 ∨ base = 16) (l : List UInt8) : 0 ≤ (natRes base l).1 ∧ (natRes base l).1 ≤ 68719476735 := by
  unfold natRes
  cases h : natL base l 0 with
  | none => exact ⟨by simp, by simp⟩
  | some n => have := natL_le hb l 0 (by omega) h; simp only; omega
/-- What word.value returns. -/
def valueRes (l : List UInt8) : Int × Bool × Bool := match l with
  | 35 :: ds => ((natRes 16 ds).1, true, (natRes 16 ds).2)
  | 45 :: ds => (-(natRes 10 ds).1, false, (natRes 10 ds).2)
  | l => ((natRes 10 l).1, false, (natRes 10 l).2)
theorem valueRes_other (l : List UInt8) (h1 : l.head? ≠ some 35) (h2 : l.head? ≠ some 45) : valueRes l = ((natRes 10 l).1, false, (natRes 10 l).2) := by
  unfold valueRes
  split
  · exact absurd rfl h1
  · exact absurd rfl h2
  · rfl
theorem ret_3 {a b : Int} {p q r s : Bool} (h : a = b) (h1 : p = q) (h2 : r = s) : Ending.returned (.tuple #[.int .i64 a, .bool p, .bool r]) = .returned (.tuple #[.int .i64 b, .bool q, .bool s]) := by rw [h, h1, h2]
theorem strOf_data (l : List UInt8) : (strOf l).data.toList = l := by simp [strOf]
set_option maxHeartbeats 400000 in
theorem value_any (s : ByteArray) (w : World) :
    Calls Tryd.prog 91 #[.string s] w fun e w' => e = .returned (.tuple #[.int .i64 (valueRes s.data.toList).1, .bool (valueRes s.data.toList).2.1, .bool (valueRes s.data.toList).2.2]) ∧ Below w.heap.size w w' := by
  have c1 := fun W => Tryd.strings_CutPrefix s ⟨#[35]⟩ W
  have c2 := fun W => Tryd.strings_CutPrefix s ⟨#[45]⟩ W
  by_cases h35 : s.data.toList.head? = some 35
  · obtain ⟨ds, hds⟩ : ∃ ds, s.data.toList = 35 :: ds := List.head?_eq_some_iff.1 h35
    rw [hds, (trim_hit 35 ds).1, (trim_hit 35 ds).2] at c1
    have hv : valueRes s.data.toList = ((natRes 16 ds).1, true, (natRes 16 ds).2) := by rw [hds]; rfl
    have C := natural16_any (strOf ds)
    rw [strOf_data] at C
    have CC := Lib.hid C
    have C1 := Lib.hid c1
    have HV := Lib.hid hv
    clear hv C c1 c2 hds h35
    go_enter Tryd.func91, Tryd.ntmps91
    go_wp2_with fail
    refine (C1.out _).mono ?_
    rintro e w' ⟨rfl, rfl⟩
    go_wp2_with fail
    refine (CC.out _).mono ?_
    rintro e w1 ⟨rfl, hb1⟩
    go_wp2
    go_ret3
    exact ⟨ret_3 (by rw [HV.out]) (by rw [HV.out]) (by rw [HV.out]), hb1⟩
  · rw [(trim_miss 35 _ h35).1, (trim_miss 35 _ h35).2] at c1
    by_cases h45 : s.data.toList.head? = some 45
    · obtain ⟨ds, hds⟩ : ∃ ds, s.data.toList = 45 :: ds := List.head?_eq_some_iff.1 h45
      rw [hds, (trim_hit 45 ds).1, (trim_hit 45 ds).2] at c2
      have hv : valueRes s.data.toList = (-(natRes 10 ds).1, false, (natRes 10 ds).2) := by rw [hds]; rfl
      have C := natural10_any (strOf ds)
      rw [strOf_data] at C
      obtain ⟨b0, b1⟩ := natRes_bd (base := 10) (by decide) ds
      have CC := Lib.hid C
      have C1 := Lib.hid c1
      have C2 := Lib.hid c2
      have HV := Lib.hid hv
      clear hv C c1 c2 hds h35 h45
      go_enter Tryd.func91, Tryd.ntmps91
      go_wp2_with fail
      refine (C1.out _).mono ?_
      rintro e w' ⟨rfl, rfl⟩
      go_wp2_with fail
      refine (C2.out _).mono ?_
      rintro e w' ⟨rfl, rfl⟩
      go_wp2_with fail
      refine (CC.out _).mono ?_
      rintro e w1 ⟨rfl, hb1⟩
      go_wp2
      go_ret3
      exact ⟨ret_3 (by rw [HV.out]) (by rw [HV.out]) (by rw [HV.out]), hb1⟩
    · rw [(trim_miss 45 _ h45).1, (trim_miss 45 _ h45).2] at c2
      have hv := valueRes_other _ h35 h45
      have C := natural10_any (strOf s.data.toList)
      rw [strOf_data] at C
      have CC := Lib.hid C
      have C1 := Lib.hid c1
      have C2 := Lib.hid c2
      have HV := Lib.hid hv
      clear hv C c1 c2 h35 h45
      go_enter Tryd.func91, Tryd.ntmps91
      go_wp2_with fail
      refine (C1.out _).mono ?_
      rintro e w' ⟨rfl, rfl⟩
      go_wp2_with fail
      refine (C2.out _).mono ?_
      rintro e w' ⟨rfl, rfl⟩
      go_wp2_with fail
      refine (CC.out _).mono ?_
      rintro e w1 ⟨rfl, hb1⟩
      go_wp2
      go_ret3
      exact ⟨ret_3 (by rw [HV.out]) (by rw [HV.out]) (by rw [HV.out]), hb1⟩
end Go.Proofs.YtldnmdadlgjbgaaDoor.W1
