/- The reference's words and symbols. -/
import Derived.Test.YtbkbhlbfkfnljaaGreatDoorKit
import Derived.Test.YtbkbhlbfkfnljaaGreatDoorLxd
set_option linter.unusedVariables false
set_option linter.unusedSimpArgs false
set_option linter.unusedVariables false
set_option linter.unusedSimpArgs false
namespace Go.Proofs.YtbkbhlbfkfnljaaGreatDoor
open Go Go.RowKit L8

theorem byte_eq (a : UInt8) (k : Nat) (hk : k < 256) (b : UInt8) (hb : b.toNat = k) : ((a.toNat : Int) == (k : Int)) = decide (a = b) := by
  by_cases h : a = b
  · subst h; simp [hb]
  · have : a.toNat ≠ k := fun e => h (UInt8.toNat_inj.1 (e.trans hb.symm))
    simp [h]; omega
theorem dle (a b : Nat) : decide (a ≤ b) = decide ((a : Int) ≤ (b : Int)) := decide_eq_decide.2 (by omega)
theorem letter_int (c : UInt8) (n : Nat) (h : c.toNat = n) : letter c = ((decide ((65 : Int) ≤ (n : Int)) && decide ((n : Int) ≤ 90)) || (decide ((97 : Int) ≤ (n : Int)) && decide ((n : Int) ≤ 122))) := by
  subst h
  unfold letter
  rw [dle 65, dle _ 90, dle 97, dle _ 122]
  rfl
theorem digit_int (c : UInt8) (n : Nat) (h : c.toNat = n) : digit c = (decide ((48 : Int) ≤ (n : Int)) && decide ((n : Int) ≤ 57)) := by
  subst h
  unfold digit
  rw [dle 48, dle _ 57]
  rfl
theorem ownS_new' {w : World} {q : Nat} {ss : List Bs} (hl : ss.length ≤ maxLen) (hq : w.heap[q]? = some (.cells (sC ss).toArray 9 (0, 0))) : SS w (some ⟨q, 0, none⟩) ss.length ss :=
  OwnS.ss (B := 0) (n := ss.length) ⟨by rw [sC_len]; omega, .inr ⟨q, ss.length, _, rfl, Nat.zero_le _, hq, Nat.le_refl _, hl, by simp [sC_len], by simp [List.take_of_length_le, sC_len]⟩⟩
theorem contains_hit {ss : List Bs} {s : Bs} {k : Nat} (hk : k < ss.length) (h : ss.getD k [] = s) : ss.contains s = true := by
  have : ss[k] = s := by rw [← h]; simp [hk]
  rw [← this]
  simp
theorem contains_miss {ss : List Bs} {s : Bs} (h : ∀ j, j < ss.length → ss.getD j [] ≠ s) : ss.contains s = false := by
  cases hc : ss.contains s with
  | false => rfl
  | true =>
    obtain ⟨i, hi, e⟩ := List.getElem_of_mem (show s ∈ ss by simpa using hc)
    exact absurd (by simp [hi, e]) (h i hi)
end Go.Proofs.YtbkbhlbfkfnljaaGreatDoor
/- The reference's names and values of digits. -/
set_option linter.unusedVariables false
set_option linter.unusedSimpArgs false
namespace Go.Proofs.YtbkbhlbfkfnljaaGreatDoor
open Go Go.RowKit L8

theorem name_no {s : Bs} (h : s = [] ∨ 32 < s.length ∨ letter (s.headD 0) = false ∨ isKey s = true ∨ s.all wordB = false) : isName s = false := by
  unfold isName
  rcases h with rfl | h | h | h | h
  · rfl
  · rw [decide_eq_false (show ¬ s.length ≤ 32 by omega)]; simp
  · rw [h]; simp
  · rw [h]; simp
  · rw [h]; simp
theorem name_yes {s : Bs} (h1 : s ≠ []) (h2 : s.length ≤ 32) (h3 : letter (s.headD 0) = true) (h4 : isKey s = false) (h5 : s.all wordB = true) : isName s = true := by
  unfold isName
  have := List.length_pos_iff.2 h1
  rw [decide_eq_true (show 1 ≤ s.length by omega), decide_eq_true h2, h3, h4, h5]
  rfl
theorem all_snoc {l : Bs} {k : Nat} {f : UInt8 → Bool} (hk : k < l.length) (h : (l.take k).all f = true) (hc : f (l.getD k 0) = true) : (l.take (k + 1)).all f = true := by
  rw [List.take_succ_eq_append_getElem hk, List.all_append, h, Bool.true_and]
  have : l.getD k 0 = l[k] := by simp [hk]
  rw [this] at hc
  simp [hc]
theorem all_bad {l : Bs} {k : Nat} {f : UInt8 → Bool} (hk : k < l.length) (hc : f (l.getD k 0) = false) : l.all f = false := by
  cases h : l.all f with
  | false => rfl
  | true =>
    rw [List.all_eq_true] at h
    have : l.getD k 0 = l[k] := by simp [hk]
    rw [this, h _ (List.getElem_mem hk)] at hc
    cases hc
def VR (o : Option Nat) (e : Ending) : Prop := match o with
  | some v => e = .returned (.tuple #[.int .i64 (v : Int), .bool true])
  | none => ∃ z : Int, e = .returned (.tuple #[.int .i64 z, .bool false])
theorem value_short {b most lim : Nat} {s : Bs} (h : s.length < 1 ∨ most < s.length) : value b most lim s = none := by unfold value; rw [if_pos h]
theorem value_of {b most lim : Nat} {s : Bs} (h : ¬ (s.length < 1 ∨ most < s.length)) : value b most lim s = match numL b s 0 with | some v => if v < lim then some v else none | none => none := by
  unfold value; rw [if_neg h]
  cases numL b s 0 <;> rfl
theorem numL_step {b : Nat} {s : Bs} {k n : Nat} (h : k < s.length) : numL b (s.drop k) n = match dval b (s.getD k 0) with | some d => numL b (s.drop (k + 1)) (n * b + d) | none => none := by
  have e : s.getD k 0 = s[k] := by simp [h]
  rw [List.drop_eq_getElem_cons h, e]
  rfl
theorem step_bd {b a d k : Nat} (hb : b = 10 ∨ b = 16) (ha : a < 16 ^ k) (hd : d < b) (hk : k < 10) : a * b + d < 16 ^ (k + 1) ∧ a * b ≤ 1099511627776 := by
  have h1 : (a + 1) * 16 ≤ 16 ^ k * 16 := Nat.mul_le_mul_right 16 ha
  have h2 : a * b ≤ a * 16 := Nat.mul_le_mul_left a (by omega)
  have h3 : (16 : Nat) ^ k ≤ 16 ^ 9 := Nat.pow_le_pow_right (by decide) (by omega)
  have h4 : (16 : Nat) ^ 9 = 68719476736 := by decide
  rw [Nat.pow_succ]
  omega
theorem dval_dig {b : Nat} {c : UInt8} (h : digit c = true) : dval b c = some (c.toNat - 48) ∧ 48 ≤ c.toNat ∧ c.toNat ≤ 57 := by
  unfold digit at h
  simp only [Bool.and_eq_true, decide_eq_true_eq] at h
  unfold dval
  rw [if_pos h]
  exact ⟨rfl, h⟩
theorem dval_hex {c : UInt8} (h : digit c = false) (h1 : 65 ≤ c.toNat) (h2 : c.toNat ≤ 70) : dval 16 c = some (c.toNat - 55) := by
  unfold dval
  rw [if_neg (by omega), if_pos ⟨rfl, h1, h2⟩]
theorem dval_no {b : Nat} {c : UInt8} (h : digit c = false) (h1 : b = 10 ∨ c.toNat < 65 ∨ 70 < c.toNat) (hb : b = 10 ∨ b = 16) : dval b c = none := by
  unfold digit at h
  simp only [Bool.and_eq_false_iff, decide_eq_false_iff_not] at h
  unfold dval
  rw [if_neg (by omega), if_neg (by omega)]
end Go.Proofs.YtbkbhlbfkfnljaaGreatDoor
/- The reference's tokens that exist, and which are near. -/
set_option linter.unusedVariables false
set_option linter.unusedSimpArgs false
namespace Go.Proofs.YtbkbhlbfkfnljaaGreatDoor
open Go Go.RowKit L8

theorem may_low {t : Tk} (h : t.a < 0) : may t = false := by unfold may; rw [decide_eq_false (show ¬ 0 ≤ t.a by omega)]; rfl
theorem may_high {t : Tk} (h : 255 < t.a) : may t = false := by unfold may; rw [decide_eq_false (show ¬ t.a ≤ 255 by omega)]; simp
theorem may_1 {a n : Int} {tx : Bs} (h1 : 0 ≤ a) (h2 : a ≤ 255) : may ⟨1, a, tx, n⟩ = (isName tx && decide (n = 0)) := by
  unfold may; dsimp only; rw [decide_eq_true h1, decide_eq_true h2, Bool.true_and, Bool.true_and]; rfl
theorem may_2 {a n : Int} {tx : Bs} (h1 : 0 ≤ a) (h2 : a ≤ 255) : may ⟨2, a, tx, n⟩ = (isKey tx && decide (n = 0)) := by
  unfold may; dsimp only; rw [decide_eq_true h1, decide_eq_true h2, Bool.true_and, Bool.true_and]; rfl
theorem may_3 {a n : Int} {tx : Bs} (h1 : 0 ≤ a) (h2 : a ≤ 255) : may ⟨3, a, tx, n⟩ = tx.isEmpty := by
  unfold may; dsimp only; rw [decide_eq_true h1, decide_eq_true h2, Bool.true_and, Bool.true_and]; rfl
theorem may_4 {a n : Int} {tx : Bs} (h1 : 0 ≤ a) (h2 : a ≤ 255) : may ⟨4, a, tx, n⟩ = (tx.isEmpty && decide (0 ≤ n) && decide (n ≤ 255)) := by
  unfold may; dsimp only; rw [decide_eq_true h1, decide_eq_true h2, Bool.true_and, Bool.true_and]; rfl
theorem may_5 {a n : Int} {tx : Bs} (h1 : 0 ≤ a) (h2 : a ≤ 255) : may ⟨5, a, tx, n⟩ = (isSym tx && decide (n = 0)) := by
  unfold may; dsimp only; rw [decide_eq_true h1, decide_eq_true h2, Bool.true_and, Bool.true_and]; rfl
theorem may_oth {t : Tk} (h : t.k ≠ 1 ∧ t.k ≠ 2 ∧ t.k ≠ 3 ∧ t.k ≠ 4 ∧ t.k ≠ 5) : may t = false := by
  cases hm : may t with
  | false => rfl
  | true => obtain ⟨_, _, hp⟩ := may_parts hm; omega
theorem int_eq0 (n : Int) : (n == 0) = decide (n = 0) := by by_cases h : n = 0 <;> simp [h]
theorem eq_nil (l : Bs) : ((strOf l).toList == []) = l.isEmpty := by
  rw [toList_strOf]; cases l <;> rfl
end Go.Proofs.YtbkbhlbfkfnljaaGreatDoor
