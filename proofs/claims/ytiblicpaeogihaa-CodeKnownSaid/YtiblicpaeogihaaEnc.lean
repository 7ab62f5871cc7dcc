/- Encodings of instructions as lists of bytes: what they are, what is decoded from bytes, and what becomes of the one by the other. Plain arithmetic. -/

import Derived.Test.YtiblicpaeogihaaRows
import Derived.WalkKit
namespace Go.Proofs.Ytiblicpaeogihaa
open Go Go.RowKit

/-- The encoding of a function with an operand that is not negative. -/
def encN (fn n : Nat) : List Nat := (if n < 16 then [] else encN 2 (n / 16)) ++ [16 * fn + n % 16]
termination_by n
decreasing_by omega
theorem encN_lo {fn n : Nat} (h : n < 16) : encN fn n = [16 * fn + n % 16] := by rw [encN, if_pos h]; rfl
theorem encN_hi {fn n : Nat} (h : ¬ n < 16) : encN fn n = encN 2 (n / 16) ++ [16 * fn + n % 16] := by rw [encN, if_neg h]
/-- The encoding of a function with any operand. -/
def enc (fn : Nat) (v : Int) : List Nat := if v < 0 then encN 6 ((-1 - v).toNat / 16) ++ [16 * fn + (v % 16).toNat] else encN fn v.toNat
theorem enc_neg {fn : Nat} {v : Int} (h : v < 0) : enc fn v = enc 6 ((-1 - v) / 16) ++ [16 * fn + (v % 16).toNat] := by
  rw [enc, if_pos h, enc, if_neg (by omega)]
  congr 2
  omega
theorem enc_lo {fn : Nat} {v : Int} (h : 0 ≤ v) (h' : v < 16) : enc fn v = [16 * fn + (v % 16).toNat] := by
  rw [enc, if_neg (by omega), encN_lo (by omega)]
  congr 2
  omega
theorem enc_hi {fn : Nat} {v : Int} (h : 16 ≤ v) : enc fn v = enc 2 (v / 16) ++ [16 * fn + (v % 16).toNat] := by
  rw [enc, if_neg (by omega), encN_hi (by omega), enc, if_neg (by omega)]
  congr 2
  · congr 1; omega
  · congr 2; omega
theorem encN_len {fn n : Nat} (k : Nat) (hk : 0 < k) (h : n < 16 ^ k) : 0 < (encN fn n).length ∧ (encN fn n).length ≤ k := by
  induction k generalizing fn n with
  | zero => omega
  | succ k ih =>
    by_cases h1 : n < 16
    · rw [encN_lo h1]; simp
    · rw [encN_hi h1]
      have hk1 : 0 < k := by
        rcases Nat.eq_zero_or_pos k with rfl | h0
        · omega
        · exact h0
      have := ih (fn := 2) (n := n / 16) hk1 (by rw [Nat.pow_succ] at h; omega)
      simp; omega
theorem enc_len_pos (fn : Nat) (v : Int) : 0 < (enc fn v).length := by
  unfold enc
  split
  · simp
  · rw [encN]; simp
/-- An operand of which n bytes can be made. -/
def fits (n : Nat) (v : Int) : Prop := (0 ≤ v ∧ v < (16 ^ n : Nat)) ∨ (1 < n ∧ -((16 ^ n : Nat) : Int) ≤ v ∧ v < 0)
theorem enc_fits {fn n : Nat} {v : Int} (h0 : 0 < n) (h : fits n v) : (enc fn v).length ≤ n := by
  unfold enc
  rcases h with ⟨a, b⟩ | ⟨a, b, c⟩
  · rw [if_neg (by omega)]
    exact (encN_len n h0 (by omega)).2
  · rw [if_pos c]
    obtain ⟨m, rfl⟩ : ∃ m, n = m + 1 := ⟨n - 1, by omega⟩
    have := (encN_len (fn := 6) (n := (-1 - v).toNat / 16) m (by omega) (by rw [Nat.pow_succ] at b; omega)).2
    simp; omega
theorem enc_len (fn : Nat) {v : Int} (h : -2147483648 ≤ v ∧ v ≤ 2147483647) : (enc fn v).length ≤ 8 := by
  refine enc_fits (by omega) ?_
  unfold fits
  have : (16 : Nat) ^ 8 = 4294967296 := by decide
  omega
theorem encN_by {fn n : Nat} (h : fn < 16) : ∀ x ∈ encN fn n, x < 256 := by
  induction n using Nat.strongRecOn generalizing fn with
  | ind n ih =>
    by_cases h1 : n < 16
    · rw [encN_lo h1]; intro x hx; simp at hx; omega
    · rw [encN_hi h1]
      intro x hx
      simp only [List.mem_append, List.mem_singleton] at hx
      rcases hx with hx | hx
      · exact ih (n / 16) (by omega) (by omega) x hx
      · omega
theorem enc_by {fn : Nat} {v : Int} (h : fn < 16) : ∀ x ∈ enc fn v, x < 256 := by
  unfold enc
  split
  · intro x hx
    simp only [List.mem_append, List.mem_singleton] at hx
    rcases hx with hx | hx
    · exact encN_by (by omega) x hx
    · omega
  · exact encN_by h

/-- The operand register behind a prefix. -/
def nx (o : Int) (c : Nat) : Int := wrap32 (16 * (if c / 16 = 6 then -1 - (o + (c % 16 : Nat)) else o + (c % 16 : Nat)))
/-- What is decoded: the function, the operand, the number of bytes, the error. -/
structure Got where
  fn : Nat
  arg : Int
  n : Nat
  e : Int
/-- Decoding, from a register on, of at most m bytes more, k having been decoded. -/
def gt : Nat → Int → Nat → List Nat → Got
  | 0, _, _, _ => ⟨0, 0, 0, 3⟩
  | _ + 1, _, _, [] => ⟨0, 0, 0, 40⟩
  | m + 1, o, k, c :: xs => if c / 16 = 2 ∨ c / 16 = 6 then gt m (nx o c) (k + 1) xs else ⟨c / 16, o + (c % 16 : Nat), k + 1, 0⟩
def get (xs : List Nat) : Got := gt 16 0 0 xs
theorem gt_nil (m : Nat) (o : Int) (k : Nat) : gt (m + 1) o k [] = ⟨0, 0, 0, 40⟩ := rfl
theorem gt_zero (o : Int) (k : Nat) (xs : List Nat) : gt 0 o k xs = ⟨0, 0, 0, 3⟩ := by cases xs <;> rfl
theorem gt_pre {m : Nat} {o : Int} {k c : Nat} {xs : List Nat} (h : c / 16 = 2 ∨ c / 16 = 6) : gt (m + 1) o k (c :: xs) = gt m (nx o c) (k + 1) xs := by
  show (if _ then _ else _) = _
  rw [if_pos h]
theorem gt_end {m : Nat} {o : Int} {k c : Nat} {xs : List Nat} (h : ¬ (c / 16 = 2 ∨ c / 16 = 6)) : gt (m + 1) o k (c :: xs) = ⟨c / 16, o + (c % 16 : Nat), k + 1, 0⟩ := by
  show (if _ then _ else _) = _
  rw [if_neg h]
/-- A register: a word whose last four bits are 0. -/
def Reg (o : Int) : Prop := -2147483648 ≤ o ∧ o ≤ 2147483632 ∧ o % 16 = 0
theorem nx_reg (o : Int) (c : Nat) : Reg (nx o c) := by
  unfold Reg nx wrap32
  split <;> omega
theorem reg_zero : Reg 0 := by unfold Reg; omega

theorem gt_n {m : Nat} {o : Int} {k : Nat} {xs : List Nat} (h : (gt m o k xs).e = 0) : k < (gt m o k xs).n ∧ (gt m o k xs).n ≤ k + m ∧ (gt m o k xs).n ≤ k + xs.length := by
  induction m generalizing o k xs with
  | zero => rw [gt_zero] at h; simp at h
  | succ m ih =>
    cases xs with
    | nil => rw [gt_nil] at h; simp at h
    | cons c xs =>
      by_cases hc : c / 16 = 2 ∨ c / 16 = 6
      · rw [gt_pre hc] at h ⊢
        have := ih h
        simp; omega
      · rw [gt_end hc]; simp
theorem gt_fails {m : Nat} {o : Int} {k : Nat} {xs : List Nat} (h : (gt m o k xs).e ≠ 0) : (gt m o k xs).fn = 0 ∧ (gt m o k xs).arg = 0 ∧ (gt m o k xs).n = 0 := by
  induction m generalizing o k xs with
  | zero => rw [gt_zero]; simp
  | succ m ih =>
    cases xs with
    | nil => rw [gt_nil]; simp
    | cons c xs =>
      by_cases hc : c / 16 = 2 ∨ c / 16 = 6
      · rw [gt_pre hc] at h ⊢
        exact ih h
      · rw [gt_end hc] at h; simp at h
def valid (fn : Nat) : Bool := decide (fn < 16 ∧ fn ≠ 2 ∧ fn ≠ 6)
theorem gt_word {m : Nat} {o : Int} {k : Nat} {xs : List Nat} (ho : Reg o) (hb : ∀ x ∈ xs, x < 256) : (gt m o k xs).fn < 256 ∧ -2147483648 ≤ (gt m o k xs).arg ∧ (gt m o k xs).arg ≤ 2147483647 ∧ (gt m o k xs).n ≤ k + m ∧ 0 ≤ (gt m o k xs).e ∧ (gt m o k xs).e ≤ 40 ∧
    ((gt m o k xs).e = 0 → valid (gt m o k xs).fn = true) := by
  induction m generalizing o k xs with
  | zero => rw [gt_zero]; simp
  | succ m ih =>
    cases xs with
    | nil => rw [gt_nil]; simp
    | cons c xs =>
      by_cases hc : c / 16 = 2 ∨ c / 16 = 6
      · rw [gt_pre hc]
        have := ih (k := k + 1) (nx_reg o c) (fun x hx => hb x (List.mem_cons_of_mem _ hx))
        refine ⟨this.1, this.2.1, this.2.2.1, ?_, this.2.2.2.2⟩
        omega
      · rw [gt_end hc]
        unfold Reg at ho
        have := hb c List.mem_cons_self
        simp [valid]
        refine ⟨?_, ?_, ?_, ?_⟩ <;> omega
/-- The bytes behind the instruction do not matter; without the last byte it is incomplete. -/
theorem gt_front {m : Nat} {o : Int} {k : Nat} {xs : List Nat} (h : (gt m o k xs).e = 0) (ys : List Nat) :
    gt m o k (xs.take ((gt m o k xs).n - k) ++ ys) = gt m o k xs ∧ gt m o k (xs.take ((gt m o k xs).n - 1 - k)) = ⟨0, 0, 0, 40⟩ := by
  induction m generalizing o k xs with
  | zero => rw [gt_zero] at h; simp at h
  | succ m ih =>
    cases xs with
    | nil => rw [gt_nil] at h; simp at h
    | cons c xs =>
      by_cases hc : c / 16 = 2 ∨ c / 16 = 6
      · rw [gt_pre hc] at h ⊢
        have h1 := gt_n h
        have h2 := ih h
        rw [show (gt m (nx o c) (k + 1) xs).n - k = ((gt m (nx o c) (k + 1) xs).n - (k + 1)) + 1 by omega, List.take_succ_cons, List.cons_append, gt_pre hc]
        refine ⟨h2.1, ?_⟩
        rw [show (gt m (nx o c) (k + 1) xs).n - 1 - k = ((gt m (nx o c) (k + 1) xs).n - 1 - (k + 1)) + 1 by omega, List.take_succ_cons, gt_pre hc]
        exact h2.2
      · rw [gt_end hc]
        simp only [show k + 1 - k = 1 by omega, show k + 1 - 1 - k = 0 by omega, List.take_zero, gt_nil, and_true]
        rw [show (c :: xs).take 1 = [c] from rfl, List.cons_append, gt_end hc]
/-- No sequence of bytes that decodes to an operand is shorter than its encoding. -/
theorem gt_short {m : Nat} {o : Int} {k : Nat} {xs : List Nat} (h : (gt m o k xs).e = 0) (hk : k < 8 → (k = 0 → o = 0) ∧ -((16 ^ (k + 1) : Nat) : Int) ≤ o ∧ o ≤ (16 ^ (k + 1) : Nat) - 16) (ho : Reg o) :
    8 ≤ (gt m o k xs).n ∨ fits (gt m o k xs).n (gt m o k xs).arg := by
  induction m generalizing o k xs with
  | zero => rw [gt_zero] at h; simp at h
  | succ m ih =>
    cases xs with
    | nil => rw [gt_nil] at h; simp at h
    | cons c xs =>
      by_cases hc : c / 16 = 2 ∨ c / 16 = 6
      · rw [gt_pre hc] at h ⊢
        refine ih h (fun hk1 => ?_) (nx_reg o c)
        obtain ⟨_, h1, h2⟩ := hk (by omega)
        refine ⟨by omega, ?_⟩
        have e : k = 0 ∨ k = 1 ∨ k = 2 ∨ k = 3 ∨ k = 4 ∨ k = 5 ∨ k = 6 := by omega
        unfold Reg at ho
        unfold nx wrap32
        rcases e with rfl | rfl | rfl | rfl | rfl | rfl | rfl <;> simp at h1 h2 ⊢ <;> (split <;> omega)
      · rw [gt_end hc]
        by_cases hk1 : 7 ≤ k
        · left; show 8 ≤ k + 1; omega
        · right
          obtain ⟨h0, h1, h2⟩ := hk (by omega)
          unfold fits
          show (0 ≤ o + ((c % 16 : Nat) : Int) ∧ o + ((c % 16 : Nat) : Int) < ((16 ^ (k + 1) : Nat) : Int)) ∨ (1 < k + 1 ∧ -((16 ^ (k + 1) : Nat) : Int) ≤ o + ((c % 16 : Nat) : Int) ∧ o + ((c % 16 : Nat) : Int) < 0)
          by_cases hk0 : k = 0
          · left; subst hk0; rw [h0 rfl]; simp; omega
          · by_cases hv : 0 ≤ o + ((c % 16 : Nat) : Int)
            · left; refine ⟨hv, ?_⟩; omega
            · right; refine ⟨by omega, ?_, by omega⟩; omega
theorem get_short {xs : List Nat} (h : (get xs).e = 0) (hb : ∀ x ∈ xs, x < 256) : (enc (get xs).fn (get xs).arg).length ≤ (get xs).n := by
  have h1 := gt_n h
  have h2 := gt_word (m := 16) (k := 0) reg_zero hb
  rcases gt_short (m := 16) (o := 0) (k := 0) (xs := xs) h (fun _ => by simp) reg_zero with h3 | h3
  · exact Nat.le_trans (enc_len _ ⟨h2.2.1, h2.2.2.1⟩) h3
  · exact enc_fits (by show 0 < (gt 16 0 0 xs).n; omega) h3
/-- The register behind the prefixes of an encoding. -/
theorem gt_encN {m k n p : Nat} (hp : p = 2 ∨ p = 6) (hn : n < 134217728) (hm : (encN p n).length ≤ m) (ys : List Nat) :
    gt m 0 k (encN p n ++ ys) = gt (m - (encN p n).length) (if p = 6 then -16 - 16 * (n : Int) else 16 * (n : Int)) (k + (encN p n).length) ys := by
  induction n using Nat.strongRecOn generalizing p m k ys with
  | ind n ih =>
    by_cases h1 : n < 16
    · rw [encN_lo h1] at hm ⊢
      obtain ⟨m', rfl⟩ : ∃ m', m = m' + 1 := ⟨m - 1, by simp at hm; omega⟩
      rw [List.cons_append, List.nil_append, gt_pre (by omega)]
      simp only [List.length_cons, List.length_nil, Nat.zero_add, Nat.add_sub_cancel]
      congr 1
      unfold nx wrap32
      rcases hp with rfl | rfl
      · rw [if_neg (by omega), if_neg (by omega)]; omega
      · rw [if_pos (by omega), if_pos (by omega)]; omega
    · rw [encN_hi h1] at hm ⊢
      rw [List.length_append] at hm
      simp only [List.length_cons, List.length_nil, Nat.zero_add] at hm
      rw [List.append_assoc, ih (n / 16) (by omega) (.inl rfl) (by omega) (by omega), if_neg (by omega)]
      obtain ⟨m', hm'⟩ : ∃ m', m - (encN 2 (n / 16)).length = m' + 1 := ⟨m - (encN 2 (n / 16)).length - 1, by omega⟩
      rw [hm', List.cons_append, List.nil_append, gt_pre (by omega), List.length_append]
      simp only [List.length_cons, List.length_nil, Nat.zero_add]
      rw [show m - ((encN 2 (n / 16)).length + 1) = m' by omega, show k + ((encN 2 (n / 16)).length + 1) = k + (encN 2 (n / 16)).length + 1 by omega]
      congr 1
      unfold nx wrap32
      rcases hp with rfl | rfl
      · rw [if_neg (by omega), if_neg (by omega)]; omega
      · rw [if_pos (by omega), if_pos (by omega)]; omega
/-- What is decoded from an encoding, whatever follows. -/
theorem gt_enc {fn m k : Nat} {v : Int} (hf : valid fn = true) (hv : -2147483648 ≤ v ∧ v ≤ 2147483647) (hm : (enc fn v).length ≤ m) (ys : List Nat) :
    gt m 0 k (enc fn v ++ ys) = ⟨fn, v, k + (enc fn v).length, 0⟩ := by
  have hf' : fn < 16 ∧ fn ≠ 2 ∧ fn ≠ 6 := by simpa [valid] using hf
  by_cases h0 : v < 0
  · have e1 : (-1 - v) / 16 = (((-1 - v).toNat / 16 : Nat) : Int) := by omega
    rw [enc_neg h0] at hm ⊢
    have e2 : enc 6 ((-1 - v) / 16) = encN 6 ((-1 - v).toNat / 16) := by rw [e1, enc, if_neg (by omega)]; congr 1
    rw [e2] at hm ⊢
    rw [List.length_append] at hm
    simp only [List.length_cons, List.length_nil, Nat.zero_add] at hm
    rw [List.append_assoc, gt_encN (.inr rfl) (by omega) (by omega), if_pos rfl]
    obtain ⟨m', hm'⟩ : ∃ m', m - (encN 6 ((-1 - v).toNat / 16)).length = m' + 1 := ⟨m - (encN 6 ((-1 - v).toNat / 16)).length - 1, by omega⟩
    rw [hm', List.cons_append, List.nil_append, gt_end (by omega), List.length_append]
    simp only [List.length_cons, List.length_nil, Nat.zero_add, Got.mk.injEq, and_true]
    refine ⟨by omega, by omega, by omega⟩
  · by_cases h1 : v < 16
    · rw [enc_lo (by omega) h1] at hm ⊢
      obtain ⟨m', rfl⟩ : ∃ m', m = m' + 1 := ⟨m - 1, by simp at hm; omega⟩
      rw [List.cons_append, List.nil_append, gt_end (by omega)]
      simp only [List.length_cons, List.length_nil, Nat.zero_add, Got.mk.injEq, and_true]
      refine ⟨by omega, by omega⟩
    · rw [enc_hi (by omega)] at hm ⊢
      have e1 : v / 16 = ((v.toNat / 16 : Nat) : Int) := by omega
      have e2 : enc 2 (v / 16) = encN 2 (v.toNat / 16) := by rw [e1, enc, if_neg (by omega)]; congr 1
      rw [e2] at hm ⊢
      rw [List.length_append] at hm
      simp only [List.length_cons, List.length_nil, Nat.zero_add] at hm
      rw [List.append_assoc, gt_encN (.inl rfl) (by omega) (by omega), if_neg (by omega)]
      obtain ⟨m', hm'⟩ : ∃ m', m - (encN 2 (v.toNat / 16)).length = m' + 1 := ⟨m - (encN 2 (v.toNat / 16)).length - 1, by omega⟩
      rw [hm', List.cons_append, List.nil_append, gt_end (by omega), List.length_append]
      simp only [List.length_cons, List.length_nil, Nat.zero_add, Got.mk.injEq, and_true]
      refine ⟨by omega, by omega, by omega⟩
theorem gt_pad {m k j : Nat} (xs : List Nat) : gt (m + j) 0 k (List.replicate j 32 ++ xs) = gt m 0 (k + j) xs := by
  induction j generalizing k with
  | zero => simp
  | succ j ih =>
    rw [List.replicate_succ, List.cons_append, ← Nat.add_assoc, gt_pre (by omega), show nx 0 32 = 0 by unfold nx wrap32; simp, ih]
    congr 1; omega
theorem get_enc {fn : Nat} {v : Int} (hf : valid fn = true) (hv : -2147483648 ≤ v ∧ v ≤ 2147483647) (ys : List Nat) : get (enc fn v ++ ys) = ⟨fn, v, (enc fn v).length, 0⟩ := by
  unfold get
  rw [gt_enc hf hv (by have := enc_len fn hv; omega), Nat.zero_add]
theorem get_pad {fn : Nat} {v : Int} (hf : valid fn = true) (hv : -2147483648 ≤ v ∧ v ≤ 2147483647) {j : Nat} (hj : j + (enc fn v).length ≤ 16) : get (List.replicate j 32 ++ enc fn v) = ⟨fn, v, j + (enc fn v).length, 0⟩ := by
  unfold get
  obtain ⟨m, hm⟩ : ∃ m, 16 = m + j := ⟨16 - j, by omega⟩
  rw [hm, gt_pad]
  have := gt_enc (m := m) (k := 0 + j) hf hv (by omega) []
  rw [List.append_nil] at this
  rw [this, Nat.zero_add]
end Go.Proofs.Ytiblicpaeogihaa
