/- The reference's words and symbols. -/
import Derived.Test.YtbkbhlbfkfnljaaDoorKit
import Derived.Test.YtbkbhlbfkfnljaaDoorLxd
set_option linter.unusedVariables false
set_option linter.unusedSimpArgs false
namespace Go.Proofs.YtbkbhlbfkfnljaaDoor
open Go Go.RowKit L8

theorem byte_eq (a : UInt8) (k : Nat) (hk : k < 256) (b : UInt8) (hb : b.toNat = k) : ((a.toNat : Int) == (k : Int)) = decide (a = b) := by
  by_cases h : a = b
  · subst h; simp [hb]
  · have : a.toNat ≠ k := fun e => h (UInt8.toNat_inj.1 (e.trans hb.symm))
    simp [h]; omega
theorem dle (a b : Nat) : decide (a ≤ b) = decide ((a : Int) ≤ (b : Int)) := decide_eq_decide.2 (by omega)
theorem letter_int (c : UInt8) (n : Nat) (h : c.toNat = n) : letter c = ((decide ((65 : Int) ≤ (n : Int)) && decide ((n : Int) ≤ 90)) || (decide ((97 : Int) ≤ (n : Int)) && decide ((n : Int) ≤ 122))) := by
  subst h
  unfold letter
  rw [dle 65, dle _ 90, dle 97, dle _ 122]
  rfl
theorem digit_int (c : UInt8) (n : Nat) (h : c.toNat = n) : digit c = (decide ((48 : Int) ≤ (n : Int)) && decide ((n : Int) ≤ 57)) := by
  subst h
  unfold digit
  rw [dle 48, dle _ 57]
  rfl
theorem Rletter_any (c : UInt8) (w : World) : Calls Tryd.prog 50 #[.int .u8 (c.toNat : Int)] w fun e w' => e = .returned (.bool (letter c)) ∧ w = w' := by
  obtain ⟨d, hd⟩ : ∃ d, c.toNat = d := ⟨_, rfl⟩
  rw [letter_int c d hd, hd]
  clear hd
  by_cases g1 : (65 : Int) ≤ (d : Int) <;> by_cases g2 : (d : Int) ≤ 90 <;> by_cases g3 : (97 : Int) ≤ (d : Int) <;> by_cases g4 : (d : Int) ≤ 122
  all_goals first
    | (exfalso; omega)
    | (simp only [g1, g2, g3, g4, decide_true, decide_false, Bool.and_true, Bool.and_false, Bool.or_true, Bool.or_false, Bool.true_and, Bool.false_and]
       go_enter Tryd.func50, Tryd.ntmps50
       go_wp2
       go_ret
       exact ⟨rfl, rfl⟩)
theorem Rdigit_any (c : UInt8) (w : World) : Calls Tryd.prog 58 #[.int .u8 (c.toNat : Int)] w fun e w' => e = .returned (.bool (digit c)) ∧ w = w' := by
  obtain ⟨d, hd⟩ : ∃ d, c.toNat = d := ⟨_, rfl⟩
  rw [digit_int c d hd, hd]
  clear hd
  by_cases g1 : (48 : Int) ≤ (d : Int) <;> by_cases g2 : (d : Int) ≤ 57
  all_goals
    simp only [g1, g2, decide_true, decide_false, Bool.and_true, Bool.and_false]
    go_enter Tryd.func58, Tryd.ntmps58
    go_wp2
    go_ret
    exact ⟨rfl, rfl⟩
theorem Rword_any (c : UInt8) (w : World) : Calls Tryd.prog 52 #[.int .u8 (c.toNat : Int)] w fun e w' => e = .returned (.bool (wordB c)) ∧ w = w' := by
  have C1 := Lib.hid (fun W => Rletter_any c W)
  have C2 := Lib.hid (fun W => Rdigit_any c W)
  have q := byte_eq c 46 (by decide) 46 rfl
  have q' : ((c.toNat : Int) == 46) = decide (c = 46) := q
  unfold wordB
  generalize decide (c = 46) = b3 at *
  generalize letter c = b1 at *
  generalize digit c = b2 at *
  generalize c.toNat = N at *
  clear q
  cases b1 <;> cases b2 <;> cases b3
  all_goals
    go_enter Tryd.func52, Tryd.ntmps52
    go_wp2_with (first
      | (go_at_call 50; (with_reducible refine (C1.out _).mono ?_); rintro e w1 ⟨rfl, rfl⟩)
      | (go_at_call 58; (with_reducible refine (C2.out _).mono ?_); rintro e w1 ⟨rfl, rfl⟩))
    go_ret
    exact ⟨rfl, rfl⟩
/-! ### Lists of words -/
theorem ownS_new' {w : World} {q : Nat} {ss : List Bs} (hl : ss.length ≤ maxLen) (hq : w.heap[q]? = some (.cells (sC ss).toArray 9 (0, 0))) : SS w (some ⟨q, 0, none⟩) ss.length ss :=
  OwnS.ss (B := 0) (n := ss.length) ⟨by rw [sC_len]; omega, .inr ⟨q, ss.length, _, rfl, Nat.zero_le _, hq, Nat.le_refl _, hl, by simp [sC_len], by simp [List.take_of_length_le, sC_len]⟩⟩
set_option maxRecDepth 100000 in
theorem RKeys_any (w : World) : Calls Tryd.prog 57 #[] w fun e w' => ∃ A, e = .returned (.slice A 33 33) ∧ SS w' A 33 keys ∧ Below w.heap.size w w' := by
  have HR := Lib.hid (ownS_new' (w := w.alloc (.cells (sC keys).toArray 9)) (q := w.heap.size) (ss := keys) (by unfold maxLen; decide) (boxS_new w 9 (sC keys).toArray))
  have HB := Lib.hid (bal (b0 w) (.cells (sC keys).toArray 9))
  go_enter Tryd.func57, Tryd.ntmps57
  go_wp2
  go_ret
  exact ⟨_, rfl, HR.out, HB.out⟩
theorem contains_hit {ss : List Bs} {s : Bs} {k : Nat} (hk : k < ss.length) (h : ss.getD k [] = s) : ss.contains s = true := by
  have : ss[k] = s := by rw [← h]; simp [hk]
  rw [← this]
  simp
theorem contains_miss {ss : List Bs} {s : Bs} (h : ∀ j, j < ss.length → ss.getD j [] ≠ s) : ss.contains s = false := by
  cases hc : ss.contains s with
  | false => rfl
  | true =>
    obtain ⟨i, hi, e⟩ := List.getElem_of_mem (show s ∈ ss by simpa using hc)
    exact absurd (by simp [hi, e]) (h i hi)
theorem Ramong_any {A : Option Addr} {c m : Nat} {ss : List Bs} {w : World} (s : Bs) (R : SS w A c ss) (hm : ss.length = m) : Calls Tryd.prog 56 #[.string (strOf s), .slice A m c] w fun e w' => e = .returned (.bool (ss.contains s)) ∧ w = w' := by
  have HR := Lib.hid R
  have HM := Lib.hid hm
  have hmx : m ≤ maxLen := by have := R.le; have := R.mx; omega
  unfold maxLen at hmx
  have HH := Lib.hid (fun k (hk : k < m) => contains_hit (ss := ss) (s := s) (k := k) (by omega))
  have HN := Lib.hid (fun (h : ∀ j, j < m → ss.getD j [] ≠ s) => contains_miss (ss := ss) (s := s) (fun j hj => h j (by omega)))
  clear R hm
  generalize ss.contains s = b at *
  go_enter Tryd.func56, Tryd.ntmps56
  go_wp2
  go_loopw [5] (fun i wr => ∃ k : Nat, k ≤ m ∧ i = .int .i64 k ∧ w = wr ∧ Hid (∀ j, j < k → ss.getD j [] ≠ s)) (fun i _ => m - (intOf i).toNat)
  case atStart => exact ⟨0, Nat.zero_le _, rfl, rfl, Lib.hid (fun j h => absurd h (by omega))⟩
  case round =>
    obtain ⟨k, hk, rfl, rfl, H⟩ := hrel
    have hk0 : (0 : Int) ≤ (k : Int) := by omega
    by_cases hk1 : (k : Int) < (m : Int)
    · obtain ⟨ad, rfl, g0⟩ := HR.out.rd k (by have := HM.out; omega)
      have HHk := Lib.hid (HH.out k (by omega))
      have HS : Hid (ss.getD k [] ≠ s → ∀ j, j < k + 1 → ss.getD j [] ≠ s) := Lib.hid fun h j hj => by
        by_cases h2 : j < k
        · exact H.out j h2
        · rw [show j = k by omega]; exact h
      have he := eqS (ss.getD k []) s
      generalize ss.getD k [] = y at *
      by_cases hy : y = s
      · have HE := Lib.hid (HHk.out hy)
        rw [decide_eq_true hy] at he
        clear hy HHk HS H
        generalize strOf y = Y at *
        go_wp2
        go_ret
        rw [HE.out]
        exact ⟨rfl, rfl⟩
      · have HE := Lib.hid (HS.out hy)
        rw [decide_eq_false hy] at he
        clear hy HHk HS H
        generalize strOf y = Y at *
        go_wp2
        go_roundw
        case rel => exact ⟨k + 1, by omega, by go_num, trivial, HE⟩
        case measure => simp [intOf]; omega
    · obtain rfl : k = m := by omega
      have HE := Lib.hid (HN.out H.out)
      clear H
      go_wp2
      go_ret
      rw [HE.out]
      exact ⟨rfl, rfl⟩
theorem RKey_any (s : Bs) (w : World) : Calls Tryd.prog 51 #[.string (strOf s)] w fun e w' => e = .returned (.bool (isKey s)) ∧ Below w.heap.size w w' := by
  have C1 := Lib.hid (RKeys_any w)
  have C2 := Lib.hid (fun (W : World) (A : Option Addr) (R : SS W A 33 keys) => show Calls Tryd.prog 56 #[.string (strOf s), .slice A 33 33] W (fun e w' => e = .returned (.bool (isKey s)) ∧ W = w') from Ramong_any s R rfl)
  generalize isKey s = b at *
  go_enter Tryd.func51, Tryd.ntmps51
  go_wp2_with (first
    | (go_at_call 57; (with_reducible refine (C1.out).mono ?_); rintro e w1 ⟨A, rfl, h1, h2⟩; have H1 := Lib.hid (And.intro h1 h2); clear h1 h2)
    | (go_at_call 56; (with_reducible refine (C2.out _ _ H1.out.1).mono ?_); rintro e w2 ⟨rfl, rfl⟩))
  go_ret
  exact ⟨rfl, H1.out.2⟩
end Go.Proofs.YtbkbhlbfkfnljaaDoor
