/- What the reference's loops over the bytes of a line reckon. Plain Lean. -/
import Derived.Test.YtkhmpmjonkmbeaaDoorAut
set_option linter.unusedVariables false
set_option linter.unusedSimpArgs false
namespace Go.Proofs.YtkhmpmjonkmbeaaDoor.L7
open Go

def eD (l : Bs) (k : Nat) : Nat := k + (bare (l.drop k)).length
theorem drop_two {l : Bs} {k : Nat} (h : k + 1 < l.length) : l.drop k = l.getD k 0 :: l.getD (k + 1) 0 :: l.drop (k + 2) := by
  rw [List.drop_eq_getElem_cons (show k < l.length by omega), List.drop_eq_getElem_cons h]
  simp [show k < l.length by omega, h]
theorem eD_hit {l : Bs} {k : Nat} (h : k + 1 < l.length) (h1 : l.getD k 0 = 45) (h2 : l.getD (k + 1) 0 = 45) : eD l k = k := by
  unfold eD
  rw [drop_two h, h1, h2]
  unfold bare
  rw [if_pos ⟨rfl, rfl⟩]
  rfl
theorem eD_miss {l : Bs} {k : Nat} (h : k + 1 < l.length) (h1 : ¬ (l.getD k 0 = 45 ∧ l.getD (k + 1) 0 = 45)) : eD l k = eD l (k + 1) := by
  unfold eD
  have e : l.drop (k + 1) = l.getD (k + 1) 0 :: l.drop (k + 2) := by
    rw [List.drop_eq_getElem_cons h]
    simp [h]
  rw [drop_two h, e]
  conv => lhs; unfold bare
  rw [if_neg h1, List.length_cons]
  omega
theorem eD_last {l : Bs} {k : Nat} (h : k + 1 = l.length) : eD l k = l.length := by
  unfold eD
  rw [List.drop_eq_getElem_cons (show k < l.length by omega), List.drop_eq_nil_of_le (show l.length ≤ k + 1 by omega)]
  show k + 1 = _
  omega
theorem eD_zero (l : Bs) : bare l = l.take (eD l 0) ∧ eD l 0 ≤ l.length := by
  unfold eD
  rw [List.drop_zero, Nat.zero_add]
  obtain ⟨q, hq⟩ := bare_sub l
  have hl : l.length = (bare l).length + q.length := by rw [← List.length_append, hq]
  refine ⟨?_, by omega⟩
  have : l.take (bare l).length = (bare l ++ q).take (bare l).length := by rw [hq]
  rw [this, List.take_left']
  rfl
theorem tR_step {l : Bs} {e : Nat} (h0 : e < l.length) (h : l.getD e 0 = 32) : trimR (l.take (e + 1)) = trimR (l.take e) := by
  have e1 : l.take (e + 1) = l.take e ++ [l.getD e 0] := by
    rw [List.take_succ_eq_append_getElem h0]
    simp [h0]
  rw [e1, h]
  unfold trimR
  rw [List.reverse_append, List.reverse_singleton, List.singleton_append, List.dropWhile_cons_of_pos (p := fun x : UInt8 => x == 32) (by decide)]
theorem tR_stop {l : Bs} {e : Nat} (h0 : e < l.length) (h : l.getD e 0 ≠ 32) : trimR (l.take (e + 1)) = l.take (e + 1) := by
  apply trimR_self
  have e1 : l.take (e + 1) = l.take e ++ [l.getD e 0] := by
    rw [List.take_succ_eq_append_getElem h0]
    simp [h0]
  rw [e1, List.getLast?_append]
  simp only [List.getLast?_singleton, Option.some_or]
  simpa using h
theorem tR_nil (l : Bs) : trimR (l.take 0) = l.take 0 := rfl
theorem ind_stop {l : Bs} {e n : Nat} (he : e ≤ l.length) (hn : n ≤ e) (h : ∀ j, j < n → l.getD j 0 = 32) (hs : n = e ∨ l.getD n 0 ≠ 32) : indL (l.take e) = n := by
  induction n generalizing l e with
  | zero =>
    cases l with
    | nil => simp at he; subst he; rfl
    | cons c r =>
      cases e with
      | zero => rfl
      | succ e =>
        rcases hs with hs | hs
        · omega
        · unfold indL
          rw [List.take_succ_cons, List.takeWhile_cons_of_neg (by simpa using hs)]
          rfl
  | succ n ih =>
    cases l with
    | nil => simp at he; omega
    | cons c r =>
      cases e with
      | zero => omega
      | succ e =>
        have h0 := h 0 (by omega)
        have hc : c = 32 := by simpa using h0
        subst hc
        have := ih (l := r) (e := e) (by simp only [List.length_cons] at he; omega) (by omega) (fun j hj => by have := h (j + 1) (by omega); rwa [List.getD_cons_succ] at this)
          (hs.imp (fun h => by omega) (fun h => by rwa [List.getD_cons_succ] at h))
        unfold indL at this ⊢
        rw [List.take_succ_cons, List.takeWhile_cons_of_pos (p := fun x : UInt8 => x == 32) (by decide), List.length_cons, this]
theorem cut_of {l : Bs} {e f n : Nat} (he : e = eD l 0) (hf : trimR (l.take e) = l.take f) (hn : indL (l.take f) = n) : cutL l = (n, (l.take f).drop n) := by
  unfold cutL
  rw [(eD_zero l).1, ← he, hf, hn]
theorem cut_le (l : Bs) : (cutL l).1 ≤ l.length ∧ (cutL l).2.length ≤ l.length := by
  unfold cutL
  have h1 := (trimR_sub (bare l)).length_le
  have h2 := (bare_sub l).length_le
  have h3 : indL (trimR (bare l)) ≤ (trimR (bare l)).length := by unfold indL; exact (List.takeWhile_prefix _).length_le
  dsimp only
  rw [List.length_drop]
  omega
theorem conts_hit {l : Bs} {j : Nat} (h : l ≠ []) (hj : j < 14) (he : l.getD (l.length - 1) 0 = cs.getD j 0) : conts l = true := by
  rw [conts_last h, isC_mem, he]
  have hj' : j < cs.length := hj
  have : cs.getD j 0 ∈ cs := by
    have e : cs.getD j 0 = cs[j] := by simp [hj']
    rw [e]; exact List.getElem_mem hj'
  simpa using this
theorem conts_miss {l : Bs} (h : l ≠ []) (he : ∀ j, j < 14 → l.getD (l.length - 1) 0 ≠ cs.getD j 0) : conts l = false := by
  rw [conts_last h, isC_mem]
  generalize l.getD (l.length - 1) 0 = c at *
  cases hc : cs.contains c with
  | false => rfl
  | true =>
    exfalso
    have hm : c ∈ cs := by simpa using hc
    obtain ⟨j, hj, rfl⟩ := List.getElem_of_mem hm
    exact he j hj (by simp [hj])
theorem plain_int (c : UInt8) (n : Nat) (h : c.toNat = n) : plainB c = (decide ((32 : Int) ≤ (n : Int)) && decide ((n : Int) ≤ 126)) := by
  subst h
  unfold plainB
  congr 1
  · simp only [decide_eq_decide]; omega
  · simp only [decide_eq_decide]; omega
theorem all_snoc {l : Bs} {k : Nat} {f : UInt8 → Bool} (hk : k < l.length) (h : (l.take k).all f = true) (hc : f (l.getD k 0) = true) : (l.take (k + 1)).all f = true := by
  have e1 : l.take (k + 1) = l.take k ++ [l.getD k 0] := by
    rw [List.take_succ_eq_append_getElem hk]
    simp [hk]
  rw [e1, List.all_append, h, Bool.true_and, List.all_cons, hc]
  rfl
theorem all_bad {l : Bs} {k : Nat} {f : UInt8 → Bool} (hk : k < l.length) (hc : f (l.getD k 0) = false) : l.all f = false := by
  rw [List.all_eq_false]
  refine ⟨l.getD k 0, ?_, by rw [hc]; decide⟩
  have e : l.getD k 0 = l[k] := by simp [hk]
  rw [e]; exact List.getElem_mem hk
/-- No two hyphens before place k. -/
theorem noDD_bad {l : Bs} {k : Nat} (h : k + 1 < l.length) (h1 : l.getD k 0 = 45) (h2 : l.getD (k + 1) 0 = 45) : noDD l = false := by
  induction k generalizing l with
  | zero =>
    have := drop_two h
    rw [List.drop_zero, h1, h2] at this
    rw [this]
    rfl
  | succ k ih =>
    cases l with
    | nil => simp at h
    | cons c r =>
      have := ih (l := r) (by simp only [List.length_cons] at h; omega) (by rwa [List.getD_cons_succ] at h1) (by rwa [List.getD_cons_succ] at h2)
      cases hd : noDD (c :: r) with
      | false => rfl
      | true => rw [noDD_tail hd] at this; cases this
theorem noDD_good {l : Bs} (h : ∀ j, j + 1 < l.length → ¬ (l.getD j 0 = 45 ∧ l.getD (j + 1) 0 = 45)) : noDD l = true := by
  induction l with
  | nil => rfl
  | cons c r ih =>
    cases r with
    | nil => rfl
    | cons d r =>
      have h1 := ih (fun j hj => by
        have := h (j + 1) (by simp only [List.length_cons] at hj ⊢; omega)
        rwa [List.getD_cons_succ, List.getD_cons_succ] at this)
      have h0 := h 0 (by simp)
      unfold noDD
      rw [h1, Bool.and_true]
      have : ¬ (c = 45 ∧ d = 45) := h0
      cases hc : (c == 45) with
      | false => rfl
      | true =>
        cases hd : (d == 45) with
        | false => rfl
        | true => exact absurd ⟨by simpa using hc, by simpa using hd⟩ this
theorem head_eq {l : Bs} (h : l ≠ []) : (l.head? == some 32) = decide (l.getD 0 0 = 32) := by
  cases l with
  | nil => exact absurd rfl h
  | cons c r =>
    show (some c == some (32 : UInt8)) = decide (c = 32)
    by_cases h : c = 32 <;> simp [h]
theorem last_eq {l : Bs} (h : l ≠ []) : (l.getLast? == some 32) = decide (l.getD (l.length - 1) 0 = 32) := by
  rw [List.getLast?_eq_getElem?]
  have h1 : l.length - 1 < l.length := by have := List.length_pos_iff.2 h; omega
  have e : l.getD (l.length - 1) 0 = l[l.length - 1] := by simp [h1]
  rw [e, List.getElem?_eq_getElem h1]
  by_cases h : l[l.length - 1] = 32 <;> simp [h]
theorem fine_empty : fine [] = false := rfl
theorem fine_as {l : Bs} (h : l ≠ []) : fine l = (decide (l.length ≤ 256) && !decide (l.getD 0 0 = 32) && !decide (l.getD (l.length - 1) 0 = 32) && !conts l && noDD l && l.all plainB) := by
  unfold fine
  rw [head_eq h, last_eq h]
  have : l.isEmpty = false := by cases l with | nil => exact absurd rfl h | cons c r => rfl
  rw [this]
  rfl
theorem byte_eq (a : UInt8) (k : Nat) (hk : k < 256) (b : UInt8) (hb : b.toNat = k) : ((a.toNat : Int) == (k : Int)) = decide (a = b) := by
  subst hb
  by_cases h : a = b
  · subst h; simp
  · rw [decide_eq_false h]
    have : ¬ a.toNat = b.toNat := fun e => h (UInt8.toNat_inj.1 e)
    simp
    omega
end Go.Proofs.YtkhmpmjonkmbeaaDoor.L7
