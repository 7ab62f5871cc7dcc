/- What the library's functions give at lines and texts, in the words of the chapter. Plain Lean. -/
import Derived.Test.YtkhmpmjonkmbeaaDoorBrk
import Derived.Lib.IndexMore
import Derived.Lib.Bytealg
import Derived.Lib.TrimByte
import Derived.Lib.Repeat
import Derived.Lib.Join
import Derived.Lib.Split
set_option linter.unusedVariables false
set_option linter.unusedSimpArgs false
namespace Go.Proofs.YtkhmpmjonkmbeaaDoor.L7
open Go

/-! ### Two hyphens -/
def dd : Bs := [45, 45]
theorem dd_pre (c : UInt8) (r : Bs) : dd.isPrefixOf (c :: r) = (c == 45 && r.head? == some 45) := by
  cases r with
  | nil => simp [dd, List.isPrefixOf]
  | cons d r =>
    simp only [dd, List.isPrefixOf, List.head?_cons, Bool.and_true]
    rw [show (45 == c) = (c == 45) from Bool.beq_comm .., show (45 == d) = (d == 45) from Bool.beq_comm ..]
    congr 1
theorem index_dd (l : Bs) : (Lib.index l dd = -1 ∧ bare l = l ∧ noDD l = true) ∨ (∃ k : Nat, Lib.index l dd = k ∧ k < l.length ∧ bare l = l.take k ∧ noDD l = false) := by
  induction l with
  | nil => exact .inl ⟨rfl, rfl, rfl⟩
  | cons c r ih =>
    cases r with
    | nil =>
      refine .inl ⟨?_, rfl, rfl⟩
      unfold Lib.index
      rw [dd_pre]
      simp [Lib.index, dd]
    | cons d r =>
      have hp := dd_pre c (d :: r)
      simp only [List.head?_cons] at hp
      by_cases h : c = 45 ∧ d = 45
      · obtain ⟨rfl, rfl⟩ := h
        refine .inr ⟨0, ?_, by simp, ?_, rfl⟩
        · unfold Lib.index; rw [hp]; rfl
        · unfold bare; rw [if_pos ⟨rfl, rfl⟩]; rfl
      · have hf : (c == 45 && some d == some (45 : UInt8)) = false := by
          cases h1 : c == 45 with
          | false => rfl
          | true =>
            cases h2 : (some d == some (45 : UInt8)) with
            | false => rfl
            | true => exact absurd ⟨by simpa using h1, by simpa using h2⟩ h
        have hb : bare (c :: d :: r) = c :: bare (d :: r) := by
          conv => lhs; unfold bare
          rw [if_neg h]
        have hn : noDD (c :: d :: r) = noDD (d :: r) := by
          conv => lhs; unfold noDD
          have : (c == 45 && d == 45) = false := by simpa using hf
          rw [this]; rfl
        have hi : Lib.index (c :: d :: r) dd = if Lib.index (d :: r) dd == -1 then -1 else Lib.index (d :: r) dd + 1 := by
          conv => lhs; unfold Lib.index
          rw [hp, hf]; rfl
        rcases ih with ⟨h1, h2, h3⟩ | ⟨k, h1, h2, h3, h4⟩
        · refine .inl ⟨?_, by rw [hb, h2], by rw [hn, h3]⟩
          rw [hi, h1]; rfl
        · refine .inr ⟨k + 1, ?_, by simp only [List.length_cons] at h2 ⊢; omega, by rw [hb, h3, List.take_succ_cons], by rw [hn, h4]⟩
          rw [hi, h1]
          have : (((k : Nat) : Int) == -1) = false := by simp
          rw [this]; rfl
theorem cut_dd (l : Bs) : (Lib.cut l dd).1 = bare l := by
  unfold Lib.cut
  rcases index_dd l with ⟨h1, h2, _⟩ | ⟨k, h1, h2, h3, _⟩
  · rw [h1, if_neg (by omega), h2]
  · rw [h1, if_pos (by omega), h3, Int.toNat_natCast]
theorem contains_dd (l : Bs) : Lib.contains l dd = !noDD l := by
  unfold Lib.contains
  rcases index_dd l with ⟨h1, _, h3⟩ | ⟨k, h1, h2, _, h4⟩
  · rw [h1, h3]; rfl
  · rw [h1, h4]; simp
/-! ### Trimming -/
theorem trim_right (l : Bs) : Lib.trimRightB l 32 = trimR l := rfl
theorem trim_left (l : Bs) : Lib.trimLeftB l 32 = l.drop (indL l) := (drop_ind l).symm
theorem trim_self (l : Bs) : decide (l = Lib.trimB l 32) = (!(l.head? == some 32) && !(l.getLast? == some 32)) := by
  unfold Lib.trimB
  rw [trim_right, trim_left]
  by_cases hl : l = []
  · subst hl; rfl
  by_cases h2 : (l.getLast? == some 32) = true
  · rw [h2, Bool.not_true, Bool.and_false, decide_eq_false_iff_not]
    intro e
    have h3 := trimR_last l
    have h4 : (l.getLast? == some 32) = false := by
      generalize hz : trimR l = z at *
      rw [e]
      have hsplit := List.take_append_drop (indL z) z
      rw [← hsplit, List.getLast?_append] at h3
      cases h : (z.drop (indL z)).getLast? with
      | none => rfl
      | some c => rw [h] at h3; exact h3
    rw [h2] at h4; cases h4
  · have h2' : (l.getLast? == some 32) = false := by simpa using h2
    rw [trimR_self h2', h2', Bool.not_false, Bool.and_true]
    cases l with
    | nil => exact absurd rfl hl
    | cons c r =>
      by_cases hc : c = 32
      · subst hc
        have : ((32 :: r).head? == some (32 : UInt8)) = true := rfl
        rw [this, Bool.not_true, decide_eq_false_iff_not]
        intro e
        have hi : indL (32 :: r) = indL r + 1 := by simp [indL]
        have := congrArg List.length e
        rw [hi, List.drop_succ_cons] at this
        simp only [List.length_cons, List.length_drop] at this
        omega
      · have : ((c :: r).head? == some (32 : UInt8)) = false := by simpa using hc
        rw [this, Bool.not_false, decide_eq_true_eq]
        have hi : indL (c :: r) = 0 := by
          unfold indL
          rw [List.takeWhile_cons_of_neg (by simpa using hc)]
          rfl
        rw [hi]; rfl
/-! ### Continuing -/
def cs : Bs := [44, 59, 40, 91, 43, 45, 42, 47, 92, 61, 60, 62, 126, 38]
theorem isC_index (c : UInt8) : decide (0 ≤ Lib.indexByte cs c) = isC c := by
  unfold isC cs
  by_cases h : (c = 44 ∨ c = 59 ∨ c = 40 ∨ c = 91 ∨ c = 43 ∨ c = 45 ∨ c = 42 ∨ c = 47 ∨ c = 92 ∨ c = 61 ∨ c = 60 ∨ c = 62 ∨ c = 126 ∨ c = 38)
  · rcases h with rfl | rfl | rfl | rfl | rfl | rfl | rfl | rfl | rfl | rfl | rfl | rfl | rfl | rfl <;> decide
  · simp only [not_or] at h
    obtain ⟨h1, h2, h3, h4, h5, h6, h7, h8, h9, h10, h11, h12, h13, h14⟩ := h
    have e : ∀ {d : UInt8}, ¬ c = d → (d == c) = false := fun h => by simpa using fun e => h e.symm
    simp [Lib.indexByte, e h1, e h2, e h3, e h4, e h5, e h6, e h7, e h8, e h9, e h10, e h11, e h12, e h13, e h14, h1, h2, h3, h4, h5, h6, h7, h8, h9, h10, h11, h12, h13, h14]
theorem isC_mem (c : UInt8) : isC c = cs.contains c := by
  rw [← isC_index]
  by_cases h : c ∈ cs
  · have : ∀ c ∈ cs, decide (0 ≤ Lib.indexByte cs c) = true := by decide
    rw [this c h]; symm; simpa using h
  · have h2 : cs.contains c = false := by simpa using h
    rw [h2, isC_index]
    cases hc : isC c with
    | false => rfl
    | true =>
      exfalso
      apply h
      unfold isC at hc
      simp only [Bool.or_eq_true, decide_eq_true_eq] at hc
      unfold cs
      simp only [List.mem_cons, List.not_mem_nil, or_false]
      simpa [or_assoc] using hc
theorem conts_last {l : Bs} (h : l ≠ []) : conts l = isC (l.getD (l.length - 1) 0) := by
  unfold conts
  rw [List.getLast?_eq_getElem?]
  have : l.length - 1 < l.length := by have := List.length_pos_iff.2 h; omega
  simp [List.getElem?_eq_getElem this]
theorem conts_nil : conts [] = false := rfl
theorem conts_app {a b : Bs} (h : b ≠ []) : conts (a ++ b) = conts b := by
  unfold conts
  rw [List.getLast?_append]
  cases hb : b.getLast? with
  | none => exact absurd (List.getLast?_eq_none_iff.1 hb) h
  | some c => rfl
theorem repeat_sp (n : Nat) : Lib.repeatL [32] n = List.replicate n 32 := by
  induction n with
  | zero => rfl
  | succ n ih => unfold Lib.repeatL; rw [ih]; rfl
/-! ### Lines: split, counted, joined -/
theorem lns_cons10 (s : Bs) : lnsOf (10 :: s) = [] :: lnsOf s := by
  show (if (10 : UInt8) = 10 then _ else _) = _
  rw [if_pos rfl]
theorem lns_ne (s : Bs) : lnsOf s ≠ [] := by
  have := (lns_len s).1
  intro e
  rw [e] at this
  simp at this
theorem count_lns (s : Bs) : Lib.countByte s 10 + 1 = (lnsOf s).length := by
  unfold Lib.countByte
  induction s with
  | nil => rfl
  | cons c s ih =>
    unfold lnsOf
    by_cases h : c = 10
    · subst h
      rw [if_pos rfl, List.count_cons_self, List.length_cons, ← ih]
    · rw [if_neg h, List.count_cons_of_ne (by simpa using h)]
      cases hl : lnsOf s with
      | nil => exact absurd hl (lns_ne s)
      | cons a t => rw [hl] at ih; simpa using ih
theorem lns_no {s : Bs} : ∀ l ∈ lnsOf s, No10 l := by
  induction s with
  | nil => intro l hl; rw [show lnsOf [] = [[]] from rfl, List.mem_singleton] at hl; subst hl; exact fun _ h => (by cases h)
  | cons c s ih =>
    intro l hl
    unfold lnsOf at hl
    by_cases h : c = 10
    · rw [if_pos h] at hl
      rcases List.mem_cons.1 hl with rfl | hl
      · exact fun _ h => (by cases h)
      · exact ih l hl
    · rw [if_neg h] at hl
      cases hq : lnsOf s with
      | nil => exact absurd hq (lns_ne s)
      | cons a t =>
        rw [hq] at hl ih
        rcases List.mem_cons.1 hl with rfl | hl
        · intro d hd
          rcases List.mem_cons.1 hd with rfl | hd
          · exact h
          · exact ih a (List.mem_cons_self ..) d hd
        · exact ih l (List.mem_cons_of_mem _ hl)
theorem lns_single {l : Bs} (h : No10 l) : lnsOf l = [l] := by
  induction l with
  | nil => rfl
  | cons c l ih =>
    unfold lnsOf
    rw [if_neg (h c (List.mem_cons_self ..)), ih (fun d hd => h d (List.mem_cons_of_mem _ hd))]
theorem lns_join {ls : List Bs} (hne : ls ≠ []) (h : ∀ l ∈ ls, No10 l) : lnsOf (Lib.join ls [10]) = ls := by
  induction ls with
  | nil => exact absurd rfl hne
  | cons l ls ih =>
    cases ls with
    | nil => rw [Lib.join_one]; exact lns_single (h l (List.mem_cons_self ..))
    | cons k ls =>
      have e : Lib.join (l :: k :: ls) [10] = l ++ 10 :: Lib.join (k :: ls) [10] := by
        simp [Lib.join, List.intercalate, List.intersperse]
      rw [e, lns_hit (h l (List.mem_cons_self ..)), ih (by simp) (fun q hq => h q (List.mem_cons_of_mem _ hq))]
/-- The line up to a line feed, and the rest. -/
def upto (l : Bs) (c : UInt8) : Nat := (l.takeWhile (· != c)).length
theorem ib_upto (l : Bs) (c : UInt8) : Lib.indexByte l c = if upto l c < l.length then (upto l c : Int) else -1 := by
  induction l with
  | nil => rfl
  | cons b l ih =>
    unfold Lib.indexByte
    by_cases h : b = c
    · subst h
      have e : upto (b :: l) b = 0 := by simp [upto]
      simp [e]
    · have e : upto (b :: l) c = upto l c + 1 := by
        unfold upto
        rw [List.takeWhile_cons_of_pos (by simpa using h)]
        rfl
      have hb : (b == c) = false := by simpa using h
      rw [hb, ih, e]
      simp only [List.length_cons, Bool.false_eq_true, if_false]
      by_cases h2 : upto l c < l.length
      · have g : (((upto l c : Nat) : Int) == -1) = false := by
          simp only [beq_eq_false_iff_ne, ne_eq]
          omega
        rw [if_pos h2, g, if_pos (show upto l c + 1 < l.length + 1 by omega)]
        rfl
      · rw [if_neg h2, if_neg (show ¬ upto l c + 1 < l.length + 1 by omega)]
        rfl
theorem rest_part (r : Bs) : (upto r 10 = r.length ∧ No10 r) ∨ (upto r 10 < r.length ∧ No10 (r.take (upto r 10)) ∧ r = r.take (upto r 10) ++ 10 :: r.drop (upto r 10 + 1)) := by
  induction r with
  | nil => exact .inl ⟨rfl, fun _ h => (by cases h)⟩
  | cons c r ih =>
    by_cases h : c = 10
    · subst h
      have e : upto (10 :: r) 10 = 0 := by simp [upto]
      rw [e]
      exact .inr ⟨by simp, (fun _ h => (by cases h)), by simp⟩
    · have e : upto (c :: r) 10 = upto r 10 + 1 := by
        unfold upto
        rw [List.takeWhile_cons_of_pos (by simpa using h)]
        rfl
      rw [e]
      rcases ih with ⟨h1, h2⟩ | ⟨h1, h2, h3⟩
      · refine .inl ⟨by simp [h1], fun d hd => ?_⟩
        rcases List.mem_cons.1 hd with rfl | hd
        · exact h
        · exact h2 d hd
      · refine .inr ⟨by simp only [List.length_cons]; omega, fun d hd => ?_, ?_⟩
        · rw [List.take_succ_cons] at hd
          rcases List.mem_cons.1 hd with rfl | hd
          · exact h
          · exact h2 d hd
        · rw [List.take_succ_cons, List.cons_append, List.drop_succ_cons]
          exact congrArg (c :: ·) h3
theorem lns_part {r : Bs} (h : No10 (r.take (upto r 10))) (e : r = r.take (upto r 10) ++ 10 :: r.drop (upto r 10 + 1)) : lnsOf r = r.take (upto r 10) :: lnsOf (r.drop (upto r 10 + 1)) :=
  (congrArg lnsOf e).trans (lns_hit h)
/-! ### Foreign bytes -/
/-- The line of the first foreign byte, or 0. -/
def foreignL : Bs → Nat → Nat
  | [], _ => 0
  | c :: r, n => if c = 10 then foreignL r (n + 1) else if plainB c = true then foreignL r n else n
theorem foreign_bad (s : Bs) : ∀ n, foreignL s n = match badLine (lnsOf s) with | some k => n + k | none => 0 := by
  unfold badLine
  induction s with
  | nil => intro n; rfl
  | cons c s ih =>
    intro n
    unfold foreignL lnsOf
    by_cases h : c = 10
    · subst h
      rw [if_pos rfl, if_pos rfl, ih (n + 1), List.findIdx?_cons]
      simp only [List.all_nil, Bool.not_true, Bool.false_eq_true, if_false]
      cases (lnsOf s).findIdx? fun l => !l.all plainB with
      | none => rfl
      | some k => show n + 1 + k = n + (k + 1); omega
    · rw [if_neg h, if_neg h]
      cases hl : lnsOf s with
      | nil => exact absurd hl (lns_ne s)
      | cons a t =>
        have := ih n
        rw [hl] at this
        dsimp only
        rw [List.findIdx?_cons] at this ⊢
        rw [List.all_cons]
        by_cases hp : plainB c = true
        · rw [if_pos hp, this, hp, Bool.true_and]
        · have hp' : plainB c = false := by simpa using hp
          rw [hp']
          simp
theorem foreign_ge (s : Bs) (n : Nat) (h : 1 ≤ n) : foreignL s n = 0 ∨ 1 ≤ foreignL s n := by omega
theorem rows_foreign {s : Bs} (h : ¬ 65536 < s.length) : rows s = if foreignL s 1 = 0 then (match rowsOf (-1) 0 (itemsOf (lnsOf s) 1) with | .error (n, e) => ([], (n : Int), e) | .ok l => (l, 0, 0)) else ([], (foreignL s 1 : Int), 5) := by
  unfold rows
  rw [if_neg h, foreign_bad s 1]
  cases badLine (lnsOf s) with
  | none => dsimp only; rw [if_pos rfl]; cases rowsOf (-1) 0 (itemsOf (lnsOf s) 1) <;> rfl
  | some k =>
    dsimp only
    rw [if_neg (show ¬ 1 + k = 0 by omega)]
    have : ((k : Int) + 1) = ((1 + k : Nat) : Int) := by omega
    rw [this]
end Go.Proofs.YtkhmpmjonkmbeaaDoor.L7
